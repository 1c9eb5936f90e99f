package gtin

import (
	"strings"

	"larder/api"
)

// ender is the byte (FNC1) behind a Value whose length its Ai does not tell.
const ender = 29

// Parse reads a scanned string: its elements; else an error and its place.
func Parse(text string) ([]api.Element, api.Errno, int) {
	if len(text) > api.MaxLabel {
		return nil, api.ErrLong, 0
	}
	s := scan{text: text}
	for s.at < len(text) {
		if e, at := s.element(); e != api.OK {
			return nil, e, at
		}
	}
	if i := lone(s.list); i >= 0 {
		return nil, api.ErrPair, s.begins[i]
	}
	return s.list, api.OK, 0
}

// Print answers the scanned string of l; else an error and the number of the element that has it.
func Print(l []api.Element) (string, api.Errno, int) {
	for i, x := range l {
		if e := fault(l[:i], x); e != api.OK {
			return "", e, i
		}
	}
	if i := lone(l); i >= 0 {
		return "", api.ErrPair, i
	}
	text := scanned(l)
	if len(text) > api.MaxLabel {
		return "", api.ErrLong, len(l)
	}
	return text, api.OK, 0
}

// scan is a string that is being read.
type scan struct {
	text   string
	at     int
	list   []api.Element
	begins []int // where the elements of list begin
}

// element reads the next one.
func (s *scan) element() (api.Errno, int) {
	begin := s.at
	k, e := ahead(s.text[begin:])
	if e == api.ErrShort {
		return e, len(s.text)
	}
	if e != api.OK {
		return e, begin
	}
	if e := clash(s.list, k.ai); e != api.OK {
		return e, begin
	}
	f := formOf(k.kind)
	from := begin + len(k.ai)
	to, e, at := s.valueEnd(f, from)
	if e != api.OK {
		return e, at
	}
	value := s.text[from:to]
	if e, at := f.ofWhole(value); e != api.OK {
		return e, from + at
	}
	s.list = append(s.list, api.Element{Ai: k.ai, Value: strings.Clone(value)})
	s.begins = append(s.begins, begin)
	s.at = to
	if f.plain {
		return api.OK, 0
	}
	return s.passEnder()
}

// valueEnd answers where the Value that begins at from ends.
func (s *scan) valueEnd(f form, from int) (int, api.Errno, int) {
	if f.plain {
		return plainEnd(s.text, from, f)
	}
	to := len(s.text)
	if n := strings.IndexByte(s.text[from:], ender); n >= 0 {
		to = from + n
	}
	for i := from; i < to; i++ {
		if i-from == f.most {
			return 0, api.ErrLarge, i
		}
		if e := f.ofByte(s.text[i]); e != api.OK {
			return 0, e, i
		}
	}
	if to-from < f.least {
		return 0, api.ErrShort, to
	}
	return to, api.OK, 0
}

func plainEnd(text string, from int, f form) (int, api.Errno, int) {
	for i := range f.most {
		if from+i == len(text) {
			return 0, api.ErrShort, len(text)
		}
		if e := f.ofByte(text[from+i]); e != api.OK {
			return 0, e, from + i
		}
	}
	return from + f.most, api.OK, 0
}

// passEnder goes over the byte that ends a Value, which the last Value of a string does not have.
func (s *scan) passEnder() (api.Errno, int) {
	if s.at == len(s.text) {
		return api.OK, 0
	}
	if s.at == len(s.text)-1 {
		return api.ErrTail, s.at
	}
	s.at++
	return api.OK, 0
}

// fault says what is wrong with x behind the elements l, OK if nothing is.
func fault(l []api.Element, x api.Element) api.Errno {
	k, ok := kindOf(x.Ai)
	if !ok {
		return api.ErrAi
	}
	if e := clash(l, x.Ai); e != api.OK {
		return e
	}
	return formOf(k).fault(x.Value)
}

func has(l []api.Element, ai string) bool { return placeOf(l, ai) >= 0 }

// clash says why an element with this Ai may not stand behind the elements l, OK if it may.
func clash(l []api.Element, ai string) api.Errno {
	if has(l, ai) {
		return api.ErrTwice
	}
	if ai == "01" && has(l, "02") || ai == "02" && has(l, "01") {
		return api.ErrPair
	}
	return api.OK
}

// lone answers the number of the first element that asks for another which is not there, or -1.
func lone(l []api.Element) int {
	for i, x := range l {
		if x.Ai == "02" && !has(l, "37") || x.Ai == "37" && !has(l, "02") {
			return i
		}
	}
	return -1
}

// scanned writes elements that are right.
func scanned(l []api.Element) string {
	var b strings.Builder
	for i, x := range l {
		b.WriteString(x.Ai)
		b.WriteString(x.Value)
		k, _ := kindOf(x.Ai)
		if i < len(l)-1 && !formOf(k).plain {
			b.WriteByte(ender)
		}
	}
	return b.String()
}
