package edi_test

import (
	"errors"
	"fmt"
	"math/rand"
	"reflect"
	"strconv"
	"strings"
	"testing"

	"larder/api"
	"larder/edi"
)

const (
	head  = "ISA*00*          *00*          *ZZ*A              *ZZ*B              *251231*2359*^*00501*000000007*0*P*:~"
	lines = "BEG*00*SA*N-1**20251231~PO1*1*5*EA*2.50**EN*6291041500213~CTT*1*5~"
	order = "GS*PO*A*B*20251231*2359*7*X*005010~ST*850*0001~" + lines + "SE*5*0001~GE*1*7~"
	end   = "IEA*1*000000007~"
	whole = head + order + end
)

func variables() []error {
	return []error{edi.ErrLong, edi.ErrShort, edi.ErrTail, edi.ErrHead, edi.ErrSeparator, edi.ErrTag, edi.ErrElement, edi.ErrCount, edi.ErrControl, edi.ErrSet, edi.ErrDocument}
}

// A fault is what a test awaits: nothing, or one of the variables at a place.
type fault struct {
	err              error
	segment, element int
}

func (f fault) String() string { return fmt.Sprintf("%v, %d, %d", f.err, f.segment, f.element) }

func told(err error) fault {
	if f, ok := err.(*edi.Fault); ok && f != nil {
		for _, v := range variables() {
			if errors.Is(err, v) {
				return fault{v, f.Segment, f.Element}
			}
		}
	}
	return fault{err: err}
}

func wantFault(t *testing.T, name string, err error, want fault) {
	t.Helper()
	if got := told(err); got != want {
		t.Errorf("%s: %v, want %v", name, got, want)
	}
}

func short(text string) string {
	if len(text) > 400 {
		return fmt.Sprintf("%q.. of %d bytes", text[:400], len(text))
	}
	return fmt.Sprintf("%q", text)
}

// plain makes all empty lists of an answer nil, so that answers can be held against each other.
func plain[T any](x T) T {
	out := reflect.New(reflect.TypeOf(x)).Elem()
	copyPlain(out, reflect.ValueOf(x))
	return out.Interface().(T)
}

func copyPlain(to, from reflect.Value) {
	switch from.Kind() {
	case reflect.Slice:
		for i := range from.Len() {
			to.Set(reflect.Append(to, reflect.Zero(from.Type().Elem())))
			copyPlain(to.Index(i), from.Index(i))
		}
	case reflect.Struct:
		for i := range from.NumField() {
			copyPlain(to.Field(i), from.Field(i))
		}
	default:
		to.Set(from)
	}
}

func equal[T any](a, b T) bool { return reflect.DeepEqual(plain(a), plain(b)) }

func wantParsed(t *testing.T, name, text string, want api.Interchange) {
	t.Helper()
	if got, err := edi.Parse(text); err != nil || !equal(got, want) {
		t.Errorf("%s: %+v, %v, want %+v", name, got, err, want)
	}
}

func wantParseFault(t *testing.T, name, text string, err error, segment, element int) {
	t.Helper()
	got, e := edi.Parse(text)
	if want := (fault{err, segment, element}); told(e) != want || !equal(got, api.Interchange{}) {
		t.Errorf("%s: Parse(%s): %+v, %v, want %v", name, short(text), got, told(e), want)
	}
}

func parsed(t *testing.T, text string) api.Interchange {
	t.Helper()
	i, err := edi.Parse(text)
	if err != nil {
		t.Fatalf("%s: %v", short(text), err)
	}
	return i
}

// replaced is a text with one part of it written otherwise; the part must stand there.
func replaced(text, from, to string) string {
	if !strings.Contains(text, from) {
		panic(from + " is not in " + text)
	}
	return strings.Replace(text, from, to, 1)
}

// one is the interchange of the text whole.
func one() api.Interchange {
	s := api.Set{Id: "850", Control: "0001", Segments: segments(lines)}
	g := api.Group{Kind: "PO", From: "A", To: "B", Date: "20251231", Time: "2359", Control: 7, Sets: []api.Set{s}}
	return api.Interchange{From: "A", To: "B", Date: "251231", Time: "2359", Control: 7, Groups: []api.Group{g}}
}

// segments reads segments with * and ~ in the simplest way.
func segments(text string) []api.Segment {
	var l []api.Segment
	for _, s := range strings.Split(strings.TrimSuffix(text, "~"), "~") {
		parts := strings.Split(s, "*")
		l = append(l, api.Segment{Tag: parts[0], Elems: parts[1:]})
	}
	return l
}

// texts writes segments with these marks: of elements, and the terminator.
func texts(l []api.Segment, element, terminator string) string {
	var b strings.Builder
	for _, s := range l {
		b.WriteString(strings.Join(append([]string{s.Tag}, s.Elems...), element) + terminator)
	}
	return b.String()
}

func idOf(kind string) string {
	return map[string]string{"PO": "850", "IB": "846", "FA": "997"}[kind]
}

func pick[T any](r *rand.Rand, l ...T) T { return l[r.Intn(len(l))] }

func times(r *rand.Rand, most int, make func() string) string {
	text := ""
	for range r.Intn(most + 1) {
		text += make()
	}
	return text
}

// someSegment is any segment of a set's own, with elements that hold none of the marks.
func someSegment(r *rand.Rand, marks string) api.Segment {
	s := api.Segment{Tag: pick(r, "AB", "A1", "ABC", "Z99", "GS1", "IE", "STX", "ZZ")}
	for range pick(r, 0, 1, 2, 3, r.Intn(33)) {
		s.Elems = append(s.Elems, times(r, pick(r, 0, 3, 80), func() string {
			for {
				if c := string(rune(32 + r.Intn(95))); !strings.Contains(marks, c) {
					return c
				}
			}
		}))
	}
	if n := len(s.Elems); n > 0 && s.Elems[n-1] == "" {
		s.Elems[n-1] = "0"
	}
	return s
}

func someParty(r *rand.Rand) string {
	return times(r, 14, func() string { return pick(r, "A", "Z", "0", "9", "K") }) + pick(r, "A", "7")
}

func someSet(r *rand.Rand, kind string, number int, marks string) api.Set {
	s := api.Set{Id: idOf(kind), Control: fmt.Sprintf("%0*d", 4+r.Intn(6), number)}
	for range r.Intn(4) {
		s.Segments = append(s.Segments, someSegment(r, marks))
	}
	return s
}

// some is an interchange of chance, whose elements hold none of the marks.
func some(r *rand.Rand, marks string) api.Interchange {
	day := func() string { return pick(r, "000229", "991231", "040229", "250131", "700101") }
	clock := func() string { return pick(r, "0000", "2359", "1200", "0959") }
	i := api.Interchange{From: someParty(r), To: someParty(r), Date: day(), Time: clock(), Control: pick(r, 1, 7, 999999999, 1+r.Intn(999999999)), Test: r.Intn(2) == 0}
	for n := range 1 + r.Intn(3) {
		g := api.Group{Kind: pick(r, "PO", "IB", "FA"), From: someParty(r), To: someParty(r), Date: pick(r, "20", "00", "99") + day(), Time: clock(), Control: pick(r, 1, 999999996, 1000*(1+r.Intn(1000))) + n}
		for number := range 1 + r.Intn(3) {
			g.Sets = append(g.Sets, someSet(r, g.Kind, number+1, marks))
		}
		i.Groups = append(i.Groups, g)
	}
	return i
}

const usual = "*^:~"

// laid writes an interchange as section 5.2 says, with these marks: of elements, of repetition, of components, the terminator.
func laid(i api.Interchange, marks string) string {
	letter := map[bool]string{true: "T", false: "P"}[i.Test]
	text := fmt.Sprintf("ISA\x01"+"00\x01%10s\x01"+"00\x01%10s\x01ZZ\x01%-15s\x01ZZ\x01%-15s\x01%s\x01%s\x01\x02\x01"+"00501\x01%s\x01"+"0\x01%s\x01\x03\x04", "", "", i.From, i.To, i.Date, i.Time, nine(i.Control), letter)
	for _, g := range i.Groups {
		text += fmt.Sprintf("GS\x01%s\x01%s\x01%s\x01%s\x01%s\x01%d\x01X\x01"+"005010\x04", g.Kind, g.From, g.To, g.Date, g.Time, g.Control)
		for _, s := range g.Sets {
			text += fmt.Sprintf("ST\x01%s\x01%s\x04%sSE\x01%d\x01%s\x04", s.Id, s.Control, texts(s.Segments, "\x01", "\x04"), len(s.Segments)+2, s.Control)
		}
		text += fmt.Sprintf("GE\x01%d\x01%d\x04", len(g.Sets), g.Control)
	}
	text += fmt.Sprintf("IEA\x01%d\x01%s\x04", len(i.Groups), nine(i.Control))
	return strings.NewReplacer("\x01", marks[0:1], "\x02", marks[1:2], "\x03", marks[2:3], "\x04", marks[3:4]).Replace(text)
}

func nine(n int) string {
	text := strconv.Itoa(n)
	for len(text) < 9 {
		text = "0" + text
	}
	return text
}
