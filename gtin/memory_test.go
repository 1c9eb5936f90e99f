package gtin_test

import (
	"testing"
	"unsafe"

	"larder/api"
	"larder/gtin"
)

// Rule R4: what is handed in is neither changed, spare room included, nor kept; answers share no memory.

// watched is a list with spare room behind it, and a copy of all of that.
type watched struct {
	given, before []api.Element
}

func watch(l []api.Element) watched {
	given := append(make([]api.Element, 0, len(l)+8), l...)
	room := given[:cap(given)]
	for i := len(l); i < len(room); i++ {
		room[i] = api.Element{Ai: "90", Value: "spare"}
	}
	return watched{given, append([]api.Element(nil), room...)}
}

func (w watched) check(t *testing.T, name string) {
	t.Helper()
	if !same(w.given[:cap(w.given)], w.before) {
		t.Errorf("%s: what was handed in has changed", name)
	}
}

func TestR4ListsAreNotChanged(t *testing.T) {
	for _, l := range [][]api.Element{
		nil,
		{{Ai: "10", Value: "A(1)"}, {Ai: "20", Value: "11"}},
		{{Ai: "20", Value: "11"}, {Ai: "20", Value: "11"}},
		{{Ai: "37", Value: "1"}},
		{{Ai: "05", Value: ""}},
	} {
		w := watch(l)
		gtin.Print(w.given)
		gtin.PrintShown(w.given)
		gtin.Find(w.given, "20")
		gtin.Find(w.given, "91")
		w.check(t, "list")
	}
}

// scribble writes over all of l, its spare room too.
func scribble(l []api.Element) {
	l = l[:cap(l)]
	for i := range l {
		l[i] = api.Element{Ai: "x", Value: "y"}
	}
}

func TestR4EveryListIsNew(t *testing.T) {
	for _, parse := range []func() ([]api.Element, api.Errno, int){
		func() ([]api.Element, api.Errno, int) { return gtin.Parse("01" + code14 + "10A" + ender + "2011") },
		func() ([]api.Element, api.Errno, int) { return gtin.ParseShown("(01)" + code14 + "(10)A(20)11") },
	} {
		one, _, _ := parse()
		two, _, _ := parse()
		scribble(one)
		three, _, _ := parse()
		want := []api.Element{{Ai: "01", Value: code14}, {Ai: "10", Value: "A"}, {Ai: "20", Value: "11"}}
		if !same(two, want) || !same(three, want) {
			t.Errorf("lists share memory: %v, %v", two, three)
		}
	}
}

// shared is a text whose bytes can be written over, as no holder of a text should.
type shared struct{ bytes []byte }

func share(text string) (shared, string) {
	s := shared{[]byte(text)}
	return s, unsafe.String(unsafe.SliceData(s.bytes), len(s.bytes))
}

func (s shared) spoil() {
	for i := range s.bytes {
		s.bytes[i] = '#'
	}
}

func TestR4TextsAreNotKept(t *testing.T) {
	for _, x := range []struct {
		name, text, want string
		call             func(text string) string
	}{
		{"Normal", "10036000291459", "10036000291459", func(s string) string { n, _ := gtin.Normal(s); return n }},
		{"Short", "10036000291459", "10036000291459", func(s string) string { n, _ := gtin.Short(s); return n }},
		{"Unit", "10036000291459", "036000291452", func(s string) string { n, _ := gtin.Unit(s); return n }},
		{"Pack", "10036000291459", "20036000291456", func(s string) string { n, _ := gtin.Pack(s, 2); return n }},
		{"Parse", "10AB", "AB", func(s string) string { l, _, _ := gtin.Parse(s); return l[0].Value }},
		{"Parse's Ai", "10AB", "10", func(s string) string { l, _, _ := gtin.Parse(s); return l[0].Ai }},
		{"ParseShown", "(10)AB", "AB", func(s string) string { l, _, _ := gtin.ParseShown(s); return l[0].Value }},
		{"ParseShown's Ai", "(10)AB", "10", func(s string) string { l, _, _ := gtin.ParseShown(s); return l[0].Ai }},
		{"Find", "AB", "AB", func(s string) string {
			v, _ := gtin.Find([]api.Element{{Ai: "10", Value: s}}, "10")
			return v
		}},
		{"Print", "AB", "10AB", func(s string) string {
			v, _, _ := gtin.Print([]api.Element{{Ai: "10", Value: s}})
			return v
		}},
		{"PrintShown", "AB", "(10)AB", func(s string) string {
			v, _, _ := gtin.PrintShown([]api.Element{{Ai: "10", Value: s}})
			return v
		}},
	} {
		bytes, text := share(x.text)
		got := x.call(text)
		bytes.spoil()
		if got != x.want {
			t.Errorf("%s: %q, want %q", x.name, got, x.want)
		}
	}
}
