package codec_test

import (
	"bytes"
	"strings"
	"testing"

	"larder/api"
	"larder/codec"
)

// The examples of section 9.6, in their order.

func restock() api.Request {
	return api.Request{Id: "r", Kind: 1, Lines: []api.Line{{Code: "a", Qty: 5}}}
}

var restockBytes = []byte{0x51, 0x01, 0x72, 0x02, 0x01, 0x01, 0x61, 0x0a, 0x00, 0x00, 0x00}

func TestExample1ARequest(t *testing.T) {
	wantPut(t, things()[0], restock(), restockBytes)
}

func TestExample2And3ReadingARequest(t *testing.T) {
	for _, x := range []struct {
		b  []byte
		e  api.Errno
		at int
	}{
		{restockBytes[:10], api.ErrShort, 10},
		{append(bytes.Clone(restockBytes), 0), api.ErrTail, 11},
		{append([]byte{0x52}, restockBytes[1:]...), api.ErrKey, 0},
		{append([]byte{0x52}, restockBytes...), api.ErrKey, 0},
		{nil, api.ErrShort, 0},
		{make([]byte, 4097), api.ErrLong, 0},
		{[]byte{0x51, 0x01, 0x72, 0x82, 0x00}, api.ErrForm, 4},
		{[]byte{0x51, 0x81, 0x20}, api.ErrLength, 1},
		{[]byte{0x51, 0x00, 0x02, 0x81, 0x20}, api.ErrCount, 3},
		{[]byte{0x51, 0x05, 0x72}, api.ErrShort, 3},
	} {
		wantFault(t, things()[0], "example", x.b, x.e, x.at)
	}
}

func TestExample4AReply(t *testing.T) {
	r := api.Reply{Id: "r", Err: 141, Line: 1}
	b := []byte{0x52, 0x01, 0x72, 0x9a, 0x02, 0x02, 0x00, 0x00}
	wantPut(t, things()[1], r, b)
	wantRead(t, things()[1], b, r)
}

func TestExample5ARecordAndAState(t *testing.T) {
	if b, e := codec.PutRecord(api.Record{Lsn: 1, Request: restock()}); !strings.HasPrefix(string(b), "\x53\x02") || e != api.OK {
		t.Errorf("%x, %d", b, e)
	}
	wantPut(t, things()[3], api.State{}, []byte{0x54, 0, 0, 0, 0, 0, 0})
}

func TestExample6ThingsThatDiffer(t *testing.T) {
	seen := map[string]int{}
	for i, r := range []api.Request{
		restock(),
		{Id: "s", Kind: 1, Lines: []api.Line{{Code: "a", Qty: 5}}},
		{Id: "r", Kind: 2, Lines: []api.Line{{Code: "a", Qty: 5}}},
		{Id: "r", Kind: 1},
		{Id: "r", Kind: 1, Lines: []api.Line{{Code: "b", Qty: 5}}},
		{Id: "r", Kind: 1, Lines: []api.Line{{Code: "a", Qty: 6}}},
		{Id: "r", Kind: 1, Lines: []api.Line{{Code: "a", Qty: 5}, {}}},
		{Id: "r", Kind: 1, Lines: []api.Line{{Code: "a", Qty: 5}}, Hold: "h"},
		{Id: "r", Kind: 1, Lines: []api.Line{{Code: "a", Qty: 5}}, Ttl: 1},
		{Id: "r", Kind: 1, Lines: []api.Line{{Code: "a", Qty: 5}}, Now: 1},
	} {
		b, e := codec.PutRequest(r)
		if other, ok := seen[string(b)]; ok || e != api.OK {
			t.Errorf("%d and %d: %x, %d", other, i, b, e)
		}
		seen[string(b)] = i
	}
}
