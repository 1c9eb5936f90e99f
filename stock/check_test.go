package stock_test

import (
	"math/rand"
	"strconv"
	"strings"
	"testing"

	"larder/api"
	"larder/stock"
)

// wantCheck holds Check, and the error of Normal and of a ledger's Do, against an error and a number.
func wantCheck(t *testing.T, name string, r api.Request, e api.Errno, number int) {
	t.Helper()
	if got, n := stock.Check(r); got != e || n != number {
		t.Errorf("%s: Check(%s): %d, %d, want %d, %d", name, show(r), got, n, e, number)
	}
	n, got, at := stock.Normal(r)
	if got != e || at != number {
		t.Errorf("%s: Normal(%s): %d, %d, want %d, %d", name, show(r), got, at, e, number)
	}
	if e != api.OK {
		if !sameRequest(n, api.Request{}) {
			t.Errorf("%s: Normal(%s) answers %s beside its error", name, show(r), show(n))
		}
		wantDone(t, made(t, 1000, "a", "b"), r, no(r.Id, e, number))
	}
}

// P12.1: a request of each kind that uses all its fields is well formed.
func TestP12_1WellFormed(t *testing.T) {
	for kind := 1; kind <= 9; kind++ {
		wantCheck(t, "well", well(kind), api.OK, 0)
	}
}

// texts are the edges of a text of 1 to most bytes from 33 to 126, with whether they are one.
func texts(most int) map[string]bool {
	return map[string]bool{
		"":                            false,
		"a":                           true,
		times('a', most):              true,
		times('a', most+1):            false,
		times('a', 2*most):            false,
		"!":                           true,
		"~":                           true,
		" ":                           false,
		"\x7f":                        false,
		"\x00":                        false,
		"\x80":                        false,
		"\xff":                        false,
		"\x1f":                        false,
		"a b":                         false,
		" a":                          false,
		"a ":                          false,
		"a\n":                         false,
		"a\x7fb":                      false,
		"!~":                          true,
		"é":                           false,
		times('a', most-1) + " ":      false,
		times('a', most-1) + "~":      true,
		times('a', most-1) + "\x7f":   false,
		" " + times('a', most-1):      false,
		times(' ', most):              false,
		times('!', most):              true,
		times('a', most) + " ":        false,
		strings.Repeat("é", most/2+1): false,
	}
}

// P12.1, 1: what an id is.
func TestP12_1Id(t *testing.T) {
	for text, isId := range texts(64) {
		e := api.ErrId
		if isId {
			e = api.OK
		}
		for kind := 1; kind <= 9; kind++ {
			r := well(kind)
			r.Id = text
			wantCheck(t, "id", r, e, 0)
		}
	}
	wantCheck(t, "an id that is too long for a code", save(times('a', 41)), api.OK, 0)
}

// P12.1: every byte, in an id, a code and a hold's name.
func TestP12_1EveryByte(t *testing.T) {
	for i := range 256 {
		b := string([]byte{byte(i)})
		good := i >= 33 && i <= 126
		for _, text := range []string{b, "a" + b, b + "a", "a" + b + "a"} {
			for err, r := range map[api.Errno]api.Request{api.ErrId: save(text), api.ErrHold: commit("c", text), api.ErrCode: read("x", text)} {
				e := err
				if good {
					e = api.OK
				}
				if got, n := stock.Check(r); got != e || n != 0 {
					t.Errorf("byte %d: Check(%s): %d, %d, want %d", i, show(r), got, n, e)
				}
			}
		}
	}
}

// P12.1, 2: the nine kinds.
func TestP12_1Kind(t *testing.T) {
	for _, kind := range []int{least, -9, -1, 0, 10, 11, 256 + 1, 1 << 32, 1<<32 + 1, greatest} {
		wantCheck(t, "kind", api.Request{Id: "k", Kind: kind}, api.ErrKind, 0)
		r := well(api.KindHold)
		r.Kind = kind
		wantCheck(t, "kind with fields", r, api.ErrKind, 0)
	}
}

// P12.1, 3: each field that a kind does not use, alone and not empty.
func TestP12_1Unused(t *testing.T) {
	set := map[byte][]func(*api.Request){
		'L': {func(r *api.Request) { r.Lines = []api.Line{line("a", 1)} }, func(r *api.Request) { r.Lines = make([]api.Line, 1) }, func(r *api.Request) { r.Lines = make([]api.Line, 33) }},
		'H': {func(r *api.Request) { r.Hold = "h" }, func(r *api.Request) { r.Hold = " " }},
		'T': {func(r *api.Request) { r.Ttl = 1 }, func(r *api.Request) { r.Ttl = -1 }, func(r *api.Request) { r.Ttl = greatest }},
		'N': {func(r *api.Request) { r.Now = 1 }, func(r *api.Request) { r.Now = -1 }, func(r *api.Request) { r.Now = least }},
	}
	count := 0
	for kind := 1; kind <= 9; kind++ {
		fields, _ := uses(kind)
		for f, ways := range set {
			for _, way := range ways {
				r := well(kind)
				way(&r)
				if !has(fields, f) {
					wantCheck(t, "field "+string(f), r, api.ErrUnused, 0)
					count++
				}
			}
		}
		// An empty list that is not nil is no line.
		r := well(kind)
		if !has(fields, 'L') {
			r.Lines = make([]api.Line, 0, 4)
			wantCheck(t, "an empty list", r, api.OK, 0)
		}
	}
	want(t, "fields not used", count, 3*5+2*6+3*7+3*8)
}

// leastQty is what the least line of a kind asks for.
func leastQty(kind int) int {
	if kind == api.KindRead {
		return 0
	}
	return 1
}

// P12.1, 4: how many lines.
func TestP12_1Lines(t *testing.T) {
	for _, kind := range []int{api.KindRestock, api.KindWriteoff, api.KindHold, api.KindRead} {
		for _, n := range []int{0, 1, 2, 31, 32, 33, 34, 1000} {
			r := well(kind)
			r.Lines = nil
			for i := range n {
				r.Lines = append(r.Lines, line("c"+strconv.Itoa(i), leastQty(kind)))
			}
			e := api.OK
			if n == 0 || n > 32 {
				e = api.ErrLines
			}
			wantCheck(t, "lines", r, e, 0)
		}
		// More than 32 of one code, and of no code: it is their number that counts.
		r := well(kind)
		r.Lines = make([]api.Line, 33)
		wantCheck(t, "33 lines that are none", r, api.ErrLines, 0)
		r.Lines = []api.Line{}
		wantCheck(t, "an empty list", r, api.ErrLines, 0)
	}
}

// P12.1, 4: codes, with the number of the line.
func TestP12_1Code(t *testing.T) {
	for _, kind := range []int{api.KindRestock, api.KindWriteoff, api.KindHold, api.KindRead} {
		for text, isCode := range texts(40) {
			for _, at := range []int{0, 1, 5} {
				r := well(kind)
				r.Lines = nil
				for range 6 {
					r.Lines = append(r.Lines, line("a", leastQty(kind)))
				}
				r.Lines[at].Code = text
				if isCode {
					wantCheck(t, "code", r, api.OK, 0)
				} else {
					wantCheck(t, "code", r, api.ErrCode, at)
				}
			}
		}
	}
}

// P12.1, 4: Qtys, of a Read and of the others.
func TestP12_1Qty(t *testing.T) {
	for _, kind := range []int{api.KindRestock, api.KindWriteoff, api.KindHold} {
		for qty, e := range map[int]api.Errno{least: api.ErrQty, -1: api.ErrQty, 0: api.ErrQty, 1: api.OK, 2: api.OK, greatest: api.OK} {
			r := well(kind)
			r.Lines = []api.Line{line("b", 3), line("a", qty)}
			number := 0
			if e != api.OK {
				number = 1
			}
			wantCheck(t, "Qty", r, e, number)
		}
	}
	for qty, e := range map[int]api.Errno{least: api.ErrQty, -1: api.ErrQty, 0: api.OK, 1: api.ErrQty, greatest: api.ErrQty} {
		r := read("x", "a", "b", "a")
		r.Lines[2].Qty = qty
		number := 0
		if e != api.OK {
			number = 2
		}
		wantCheck(t, "Qty of a Read", r, e, number)
	}
}

// P12.1, 4: sums of lines of one code, with other codes between.
func TestP12_1Over(t *testing.T) {
	for _, kind := range []int{api.KindRestock, api.KindWriteoff, api.KindHold} {
		for _, x := range []struct {
			name   string
			lines  []api.Line
			e      api.Errno
			number int
		}{
			{"just MaxStock in two", []api.Line{line("a", api.MaxStock-1), line("a", 1)}, api.OK, 0},
			{"one more", []api.Line{line("a", api.MaxStock), line("a", 1)}, api.ErrOver, 1},
			{"one more, the other way round", []api.Line{line("a", 1), line("a", api.MaxStock)}, api.ErrOver, 1},
			{"twice MaxStock", []api.Line{line("a", api.MaxStock), line("a", api.MaxStock)}, api.ErrOver, 1},
			{"MaxStock of several", []api.Line{line("a", api.MaxStock), line("b", api.MaxStock), line("c", api.MaxStock)}, api.OK, 0},
			{"others between", []api.Line{line("a", api.MaxStock/2), line("b", api.MaxStock), line("a", api.MaxStock/2), line("c", 5), line("a", 1)}, api.OK, 0},
			{"others between, one more", []api.Line{line("a", api.MaxStock/2), line("b", api.MaxStock), line("a", api.MaxStock/2), line("c", 5), line("a", 2)}, api.ErrOver, 4},
			{"the first of two codes", []api.Line{line("a", api.MaxStock), line("b", api.MaxStock), line("b", 1), line("a", 1)}, api.ErrOver, 2},
			{"thrice, so that it goes round to a small sum", []api.Line{line("a", api.MaxStock), line("b", 1), line("a", api.MaxStock), line("a", 4)}, api.ErrOver, 2},
			{"a code that begins like another", []api.Line{line("a", api.MaxStock), line("aa", api.MaxStock), line("A", api.MaxStock)}, api.OK, 0},
			{"a wrong Qty behind it", []api.Line{line("a", api.MaxStock), line("a", 1), line("a", 0)}, api.ErrOver, 1},
			{"a wrong code ahead of it", []api.Line{line("a", api.MaxStock), line("", 1), line("a", 1)}, api.ErrCode, 1},
		} {
			r := well(kind)
			r.Lines = x.lines
			wantCheck(t, x.name, r, x.e, x.number)
		}
	}
}

// P12.1, 5: what a hold's name is.
func TestP12_1Hold(t *testing.T) {
	for _, kind := range []int{api.KindCommit, api.KindRelease, api.KindExtend} {
		for text, isId := range texts(64) {
			e := api.ErrHold
			if isId {
				e = api.OK
			}
			r := well(kind)
			r.Hold = text
			wantCheck(t, "hold", r, e, 0)
		}
	}
}

// P12.1, 6 and 7.
func TestP12_1TtlAndNow(t *testing.T) {
	for ttl, good := range map[int]bool{least: false, -1: false, 0: false, 1: true, 2: true, 1 << 31: true, 1<<31 + 1: false, 1 << 32: false, greatest: false} {
		for _, kind := range []int{api.KindHold, api.KindExtend} {
			e := api.ErrTtl
			if good {
				e = api.OK
			}
			r := well(kind)
			r.Ttl = ttl
			wantCheck(t, "Ttl", r, e, 0)
		}
	}
	for now, good := range map[int]bool{least: false, -1: false, 0: true, 1: true, 1 << 39: true, 1<<39 + 1: false, 1 << 40: false, greatest: false} {
		e := api.ErrNow
		if good {
			e = api.OK
		}
		wantCheck(t, "Now", tick("t", now), e, 0)
	}
}

// P12.1: of several faults the first counts, by the order of the seven and by the order of the lines.
func TestP12_1FirstFault(t *testing.T) {
	all := hold("", 0, line("", 0))
	all.Kind = 0
	all.Hold, all.Now = " ", -1
	wantCheck(t, "everything wrong", all, api.ErrId, 0)
	all.Id = "h"
	wantCheck(t, "all but the Id", all, api.ErrKind, 0)
	all.Kind = api.KindHold
	wantCheck(t, "all but Id and Kind", all, api.ErrUnused, 0)
	all.Hold = ""
	wantCheck(t, "Now is not used either", all, api.ErrUnused, 0)
	all.Now = 0
	wantCheck(t, "code, Qty, Ttl", all, api.ErrCode, 0)
	all.Lines[0].Code = "a"
	wantCheck(t, "Qty, Ttl", all, api.ErrQty, 0)
	all.Lines = nil
	wantCheck(t, "Lines, Ttl", all, api.ErrLines, 0)
	all.Lines = []api.Line{line("a", api.MaxStock), line("a", 1)}
	wantCheck(t, "sum, Ttl", all, api.ErrOver, 1)
	all.Lines = all.Lines[:1]
	wantCheck(t, "Ttl", all, api.ErrTtl, 0)
	wantCheck(t, "Hold, Ttl", extend("e", "", 0), api.ErrHold, 0)
	wantCheck(t, "a wrong Qty, then a wrong code", restock("r", line("a", 1), line("b", 0), line("", 1)), api.ErrQty, 1)
	wantCheck(t, "a wrong code, then a wrong Qty", restock("r", line("a", 1), line("", 1), line("b", 0)), api.ErrCode, 1)
}

// anyText answers a text that is one mostly, at an edge now and then.
func anyText(r *rand.Rand, most int, usual ...string) string {
	switch r.Intn(16) {
	case 0:
		return ""
	case 1:
		return times(byte(r.Intn(256)), 1+r.Intn(3))
	case 2:
		return times('k', most-1+r.Intn(3))
	}
	return usual[r.Intn(len(usual))]
}

// anyRequest answers a request with any faults, often with none.
func anyRequest(r *rand.Rand) api.Request {
	kind := 1 + r.Intn(9)
	if r.Intn(10) == 0 {
		kind = r.Intn(14) - 2
	}
	fields, _ := uses(kind)
	q := api.Request{Id: anyText(r, 64, "p", "q", "r"), Kind: kind}
	may := func(f byte) bool { return has(fields, f) != (r.Intn(20) == 0) }
	if may('L') {
		for range []int{0, 1, 1, 2, 3, 5, 32, 33}[r.Intn(8)] {
			qty := []int{1, 1, 1, 2, 3, 0, api.MaxStock, api.MaxStock - 1, api.MaxStock / 2, -1}[r.Intn(10)]
			if kind == api.KindRead && r.Intn(20) > 0 {
				qty = 0
			}
			if len(q.Lines) > 8 {
				qty = leastQty(kind)
			}
			q.Lines = append(q.Lines, line(anyText(r, 40, "a", "b", "c", "a", "d"), qty))
		}
	}
	if may('H') {
		q.Hold = anyText(r, 64, "h", "i")
	}
	if may('T') {
		q.Ttl = []int{1, 10, 1 << 31, 1<<31 + 1, 0, -1}[r.Intn(6)]
	}
	if may('N') {
		q.Now = []int{1, 0, 1 << 39, 1<<39 + 1, -1}[r.Intn(5)]
	}
	return q
}

// P12.1, P12.2: any request against the document's list, gone through slowly.
func TestP12_1AnyRequest(t *testing.T) {
	r := rand.New(rand.NewSource(1))
	count := map[api.Errno]int{}
	for range 60000 {
		q := anyRequest(r)
		e, number := fault(q)
		count[e]++
		if got, n := stock.Check(q); got != e || n != number {
			t.Fatalf("Check(%s): %d, %d, want %d, %d", show(q), got, n, e, number)
		}
		n, got, at := stock.Normal(q)
		if got != e || at != number {
			t.Fatalf("Normal(%s): %d, %d, want %d, %d", show(q), got, at, e, number)
		}
		var tidied api.Request
		if e == api.OK {
			tidied = tidy(q)
		}
		if !sameRequest(n, tidied) {
			t.Fatalf("Normal(%s): %s, want %s", show(q), show(n), show(tidied))
		}
	}
	for _, e := range []api.Errno{api.OK, api.ErrId, api.ErrKind, api.ErrUnused, api.ErrLines, api.ErrCode, api.ErrQty, api.ErrOver, api.ErrHold, api.ErrTtl, api.ErrNow} {
		if count[e] < 300 {
			t.Errorf("error %d came %d times alone", e, count[e])
		}
	}
}

// P12.2: one line a code, in order, its Qty the sum; all else as it was.
func TestP12_2Normal(t *testing.T) {
	for _, x := range []struct{ r, n api.Request }{
		{restock("r", line("b", 2), line("a", 1), line("b", 3)), restock("r", line("a", 1), line("b", 5))},
		{writeoff("w", line("a", 1), line("a", 1), line("a", 1)), writeoff("w", line("a", 3))},
		{hold("h", 7, line("z", 1), line("Z", 2), line("zz", 3), line("!", 4)), hold("h", 7, line("!", 4), line("Z", 2), line("z", 1), line("zz", 3))},
		{hold("h", 7, line("a", api.MaxStock-1), line("b", 1), line("a", 1)), hold("h", 7, line("a", api.MaxStock), line("b", 1))},
		{read("x", "b", "a", "b"), read("x", "a", "b")},
		{commit("c", "h"), commit("c", "h")},
		{release("f", "h"), release("f", "h")},
		{extend("e", "h", 9), extend("e", "h", 9)},
		{tick("t", 5), tick("t", 5)},
		{save("s"), save("s")},
	} {
		n, e, number := stock.Normal(x.r)
		if !sameRequest(n, x.n) || e != api.OK || number != 0 {
			t.Errorf("Normal(%s): %s, %d, %d, want %s", show(x.r), show(n), e, number, show(x.n))
		}
		again, e, number := stock.Normal(n)
		if !sameRequest(again, n) || e != api.OK || number != 0 {
			t.Errorf("Normal of the Normal %s: %s, %d, %d", show(n), show(again), e, number)
		}
	}
}

// P12.2: codes are in order as lists of bytes, whatever order they come in.
func TestP12_2AnyOrder(t *testing.T) {
	r := rand.New(rand.NewSource(2))
	codes := []string{"!", "0", "10", "2", "A", "AB", "Z", "a", "a!", "aa", "b", "~"}
	for range 300 {
		q := api.Request{Id: "r", Kind: api.KindRestock}
		for _, i := range r.Perm(len(codes)) {
			for range 1 + r.Intn(2) {
				q.Lines = append(q.Lines, line(codes[i], 1+r.Intn(9)))
			}
		}
		r.Shuffle(len(q.Lines), func(i, j int) { q.Lines[i], q.Lines[j] = q.Lines[j], q.Lines[i] })
		n, _, _ := stock.Normal(q)
		for i, c := range codes {
			if len(n.Lines) != len(codes) || n.Lines[i].Code != c {
				t.Fatalf("Normal(%s): %s", show(q), show(n))
			}
		}
		if !sameRequest(n, tidy(q)) {
			t.Fatalf("Normal(%s): %s, want %s", show(q), show(n), show(tidy(q)))
		}
	}
}

// P12.2: Changes of the nine kinds, and of every other number.
func TestP12_2Changes(t *testing.T) {
	for kind := -300; kind <= 300; kind++ {
		want(t, "Changes of "+strconv.Itoa(kind), stock.Changes(kind), kind >= 1 && kind <= 8 && kind != 7)
	}
	for _, kind := range []int{least, least + 1, 1<<32 + 1, 1<<8 + 1, greatest} {
		want(t, "Changes of "+strconv.Itoa(kind), stock.Changes(kind), false)
	}
}

// P12.4: First of any Done, whatever stands in it.
func TestP12_4First(t *testing.T) {
	for kind := -2; kind <= 12; kind++ {
		for _, at := range []int{0, 1, -1, 86400, api.MaxNow, greatest, least} {
			for _, ttl := range []int{0, 1, -1, api.MaxTtl, greatest, least} {
				d := api.Done{Request: api.Request{Id: "k", Kind: kind, Lines: []api.Line{line("", -1)}, Hold: "\x00", Ttl: ttl, Now: 77}, At: at}
				now := 0
				switch kind {
				case api.KindHold, api.KindExtend:
					// Round by unsigned numbers, which may go round in any language.
					now = int(uint64(at) + uint64(ttl))
				case api.KindTick:
					now = at
				}
				if got := stock.First(d); !sameReply(got, okAt("k", now)) {
					t.Errorf("First(%s): %s, want Now %d", show(d), show(got), now)
				}
			}
		}
	}
	if got := stock.First(api.Done{}); !sameReply(got, api.Reply{}) {
		t.Errorf("First of the zero Done: %s", show(got))
	}
	if got := stock.First(api.Done{Request: hold("h", greatest), At: 1}); got.Now != least {
		t.Errorf("First, with a sum that goes round: %s", show(got))
	}
	if got := stock.First(api.Done{Request: tick(times(' ', 1000), 3), At: 2}); got.Id != times(' ', 1000) || got.Now != 2 {
		t.Errorf("First of a Tick with an odd Id: %s", show(got))
	}
}
