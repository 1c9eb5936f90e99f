package stock_test

import (
	"slices"
	"testing"

	"larder/api"
	"larder/stock"
)

func wantNew(t *testing.T, name string, codes []string, room int, e api.Errno) {
	t.Helper()
	l, got := stock.New(codes, room)
	if got != e || (l != nil) != (e == api.OK) {
		t.Errorf("%s: New(%d codes, %d): %v, %d, want %d", name, len(codes), room, l != nil, got, e)
	}
	if l == nil {
		return
	}
	s := api.State{Room: room}
	for _, c := range codes {
		s.Levels = append(s.Levels, api.Level{Code: c})
	}
	wantState(t, l, s)
	wantNext(t, l, 0, false)
	for _, c := range codes {
		wantLevel(t, l, c, 0, 0)
	}
}

// P12.3: rooms of all sizes.
func TestP12_3Room(t *testing.T) {
	ab := []string{"a", "bc"}
	for _, room := range []int{109, 110, 4000, 131071, 131072} {
		wantNew(t, "room enough", ab, room, api.OK)
	}
	for _, room := range []int{0, 1, 64, 85, 108} {
		wantNew(t, "too little room", ab, room, api.ErrFull)
	}
	for _, room := range []int{-1, least, 131073, 1 << 32, greatest} {
		wantNew(t, "no room", ab, room, api.ErrArg)
	}
	wantNew(t, "one code, just enough", []string{"a"}, 86, api.OK)
	wantNew(t, "one code, one too few", []string{"a"}, 85, api.ErrFull)
	wantNew(t, "a long code, just enough", []string{times('k', 40)}, 64+21+40, api.OK)
	wantNew(t, "a long code, one too few", []string{times('k', 40)}, 64+21+39, api.ErrFull)
}

// P12.3: catalogues of all sizes.
func TestP12_3Codes(t *testing.T) {
	wantNew(t, "nil", nil, 1000, api.ErrArg)
	wantNew(t, "empty", []string{}, 1000, api.ErrArg)
	wantNew(t, "nil, with no room", nil, -1, api.ErrArg)
	wantNew(t, "one", names(1), 1000, api.OK)
	wantNew(t, "511", names(511), api.MaxRoom, api.OK)
	wantNew(t, "512", names(512), api.MaxRoom, api.OK)
	wantNew(t, "512, just room", names(512), 64+512*23, api.OK)
	wantNew(t, "512, no room", names(512), 64+512*23-1, api.ErrFull)
	wantNew(t, "513", names(513), api.MaxRoom, api.ErrLong)
	for text, isCode := range texts(40) {
		e := api.ErrCode
		if isCode {
			e = api.OK
		}
		wantNew(t, "a code", []string{text}, 1000, e)
	}
	for _, codes := range [][]string{{"a", "a"}, {"b", "a"}, {"a", "c", "b"}, {"a", "b", "b"}, {"b", "c", "a"}, {"aa", "a"}, {"a", "Z"}, {"2", "10"}} {
		wantNew(t, "not in order", codes, 1000, api.ErrSorted)
	}
	wantNew(t, "in order as bytes", []string{"!", "10", "2", "A", "Z", "a", "aa", "ab", "b", "~"}, 1000, api.OK)
}

// P12.3, R2: of several errors the first.
func TestP12_3FirstError(t *testing.T) {
	bad := slices.Repeat([]string{"b", " ", "a", "a"}, 200)
	wantNew(t, "room, too many, codes, order", bad, -1, api.ErrArg)
	wantNew(t, "too many, codes, order, room", bad, 0, api.ErrLong)
	wantNew(t, "codes, order, room", bad[:512], 0, api.ErrCode)
	wantNew(t, "order ahead of a wrong code", []string{"b", "a", ""}, 0, api.ErrCode)
	wantNew(t, "order, room", []string{"b", "a"}, 0, api.ErrSorted)
	wantNew(t, "room", []string{"a", "b"}, 0, api.ErrFull)
}
