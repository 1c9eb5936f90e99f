package disk_test

import (
	"testing"

	"larder/api"
	"larder/disk"
)

// The examples of the chapter, in their order.

func wantNew(t *testing.T, size, sectors int, want api.Errno) {
	t.Helper()
	if d, e := disk.New(zeros(size), sectors); d != nil || e != want {
		t.Errorf("New(%d bytes, %d): %v, %d", size, sectors, d, e)
	}
}

func TestExample1New(t *testing.T) {
	wantRead(t, newDisk(t, nil, 2), 1, full(0), api.OK)
	wantNew(t, 0, 0, api.ErrArg)
	wantNew(t, 0, 4097, api.ErrArg)
	wantNew(t, 257, 2, api.ErrLong)
}

func TestExamples2To6OneDisk(t *testing.T) {
	a, b, c, zero := full('a'), full('b'), full('c'), full(0)
	d := newDisk(t, nil, 2)
	write(t, d, 0, a)
	write(t, d, 1, b)
	wantCounts(t, d, 2, 0, 1)
	wantImages(t, d, joined(a, b), joined(zero, zero))
	wantAt(t, d, 2, api.Crash{Keep: []int{1}}, joined(zero, b))
	wantAt(t, d, 2, api.Crash{Bytes: 3}, joined([]byte("aaa"), zero[3:], zero))
	wantAt(t, d, 1, api.Crash{Keep: []int{0, 7, 0}}, joined(a, zero))

	flush(t, d)
	write(t, d, 0, c)
	wantCounts(t, d, 4, 0)
	for _, x := range []api.Crash{{}, {Keep: []int{0, 1}}, {Torn: 1, Bytes: 64}, {Bytes: 128}} {
		wantAt(t, d, 3, x, joined(a, b))
	}
	wantAt(t, d, 4, api.Crash{Bytes: 1}, joined([]byte("c"), a[1:], b))

	write(t, d, 0, a)
	write(t, d, 0, a)
	wantCounts(t, d, 6, 0, 0, 0)
	wantAt(t, d, 6, api.Crash{Keep: []int{0, 2}}, joined(a, b))
	wantAt(t, d, 6, api.Crash{Keep: []int{0}, Torn: 2, Bytes: 2}, joined([]byte("aa"), c[2:], b))

	wantWrite(t, d, 2, a, api.ErrPlace)
	wantWrite(t, d, 0, a[1:], api.ErrSector)
	wantNoAt(t, d, -1, api.Crash{})
	wantNoAt(t, d, 0, api.Crash{Bytes: 129})

	wantChoices(t, "Choices(2)", d.Choices(2), []api.Crash{
		{Torn: -1}, {Keep: []int{0}, Torn: -1}, {Keep: []int{1}, Torn: -1}, {Keep: []int{0, 1}, Torn: -1},
		{Torn: 0, Bytes: 64}, {Keep: []int{1}, Torn: 0, Bytes: 64},
		{Torn: 1, Bytes: 64}, {Keep: []int{0}, Torn: 1, Bytes: 64},
	})
	wantChoices(t, "Choices(3)", d.Choices(3), []api.Crash{{Torn: -1}})
}
