package edi

import (
	"slices"
	"strconv"
	"strings"

	"larder/api"
)

const (
	headTag   = "ISA"
	headBytes = 106
	lineEnds  = "\r\n"
)

// headWidths are the bytes of the head's elements.
var headWidths = [...]int{2, 10, 2, 10, 2, 15, 2, 15, 6, 4, 1, 5, 9, 1, 1, 1}

// Parse reads the text of an interchange; or tells the first fault.
func Parse(text string) (api.Interchange, error) {
	if len(text) > api.MaxEdi {
		return api.Interchange{}, &Fault{Err: ErrLong}
	}
	r := newReader(text)
	if err := r.head(); err != nil {
		return api.Interchange{}, err
	}
	number := 1
	for ; r.behind != "IEA"; number++ {
		if err := r.next(); err != nil {
			return api.Interchange{}, onSegment(err, number)
		}
	}
	if strings.Trim(r.rest, lineEnds) != "" {
		return api.Interchange{}, &Fault{Segment: number, Err: ErrTail}
	}
	return r.whole, nil
}

// following says which of the envelopes' tags may come, and whether those of a set's own may.
type following struct {
	tags []string
	own  bool
}

// reader goes over a text segment by segment; group and set are those that are open.
type reader struct {
	rest     string // what has not been read
	marks    marks
	follow   map[string]following // by the tags of the envelopes
	behind   string               // the last of these tags
	controls map[int]int          // of the groups so far, and how often
	texts    map[string]int       // likewise of the group's sets
	whole    api.Interchange
	group    api.Group
	set      api.Set
}

func newReader(text string) *reader {
	return &reader{
		rest: text,
		follow: map[string]following{
			headTag: {tags: []string{"GS"}},
			"GS":    {tags: []string{"ST"}},
			"ST":    {tags: []string{"SE"}, own: true},
			"SE":    {tags: []string{"ST", "GE"}},
			"GE":    {tags: []string{"GS", "IEA"}},
			"IEA":   {},
		},
		controls: map[int]int{},
	}
}

// marks are the four separators of an interchange.
type marks struct{ element, repetition, component, end byte }

func (m marks) mayBe() bool {
	l := []byte{m.element, m.repetition, m.component, m.end}
	for i, c := range l {
		letter := isCapital(c) || 'a' <= c && c <= 'z'
		if c < 33 || c > 126 || letter || isDigit(c) || slices.Contains(l[:i], c) {
			return false
		}
	}
	return true
}

// head reads the first segment, whose elements stand at fixed places.
func (r *reader) head() error {
	text := r.rest
	if !strings.HasPrefix(text, headTag) && !strings.HasPrefix(headTag, text) {
		return &Fault{Err: ErrHead}
	}
	if len(text) < headBytes {
		return &Fault{Err: ErrShort}
	}
	r.marks = marks{text[3], text[82], text[104], text[105]} // ahead of the elements, 11, 16 and behind it
	if !r.marks.mayBe() {
		return &Fault{Err: ErrSeparator}
	}
	at := len(headTag)
	for i, c := range r.headChecks() {
		if text[at] != r.marks.element {
			return &Fault{Element: i + 1, Err: ErrHead}
		}
		from := at + 1
		at = from + headWidths[i]
		if err := c(text[from:at]); err != nil {
			return &Fault{Element: i + 1, Err: err}
		}
	}
	r.rest, r.behind = text[headBytes:], headTag
	return nil
}

func (r *reader) headChecks() []check {
	i := &r.whole
	blanks, separator := word(strings.Repeat(" ", 10)), func(string) error { return nil }
	return []check{
		word("00"), blanks, word("00"), blanks,
		word("ZZ"), party(&i.From), word("ZZ"), party(&i.To),
		keep(&i.Date, isDay), keep(&i.Time, isTime), separator, word("00501"),
		r.headControl, word("0"), r.testLetter, separator,
	}
}

// party takes a party that is filled up with blanks behind.
func party(to *string) check {
	return func(padded string) error { return keep(to, isParty)(strings.TrimRight(padded, " ")) }
}

func (r *reader) headControl(text string) error {
	return whole(&r.whole.Control, 1, mostControl)(strings.TrimLeft(text, "0"))
}

func (r *reader) testLetter(text string) error {
	r.whole.Test = text == "T"
	if !r.whole.Test && text != "P" {
		return ErrElement
	}
	return nil
}

// next reads a segment, and does what it says.
func (r *reader) next() error {
	r.rest = strings.TrimLeft(r.rest, lineEnds)
	end := strings.IndexByte(r.rest, r.marks.end)
	if end < 0 {
		return &Fault{Err: ErrShort}
	}
	tag, elems := r.cut(strings.Clone(r.rest[:end]))
	r.rest = r.rest[end+1:]
	if !isTag(tag) || !r.mayCome(tag) {
		return &Fault{Err: ErrTag}
	}
	if err := r.checkElems(elems); err != nil {
		return err
	}
	return r.take(tag, elems)
}

// cut divides a segment at the element separators.
func (r *reader) cut(segment string) (string, []string) {
	separator := string(rune(r.marks.element))
	tag, behind, more := strings.Cut(segment, separator)
	if !more {
		return tag, nil
	}
	return tag, strings.Split(behind, separator)
}

func isTag(tag string) bool {
	return (len(tag) == 2 || len(tag) == 3) && isCapital(tag[0]) && all(tag, isSign)
}

func (r *reader) mayCome(tag string) bool {
	f := r.follow[r.behind]
	if _, envelope := r.follow[tag]; envelope {
		return slices.Contains(f.tags, tag)
	}
	return f.own
}

func (r *reader) checkElems(elems []string) error {
	if len(elems) > api.MaxElems {
		return &Fault{Element: api.MaxElems + 1, Err: ErrElement}
	}
	for i, e := range elems {
		last := i == len(elems)-1
		if len(e) > api.MaxElem || !all(e, r.mayStand) || last && e == "" {
			return &Fault{Element: i + 1, Err: ErrElement}
		}
	}
	return nil
}

// mayStand does not ask for the two separators at which texts are cut: they are in no element.
func (r *reader) mayStand(c byte) bool {
	return c >= 32 && c <= 126 && c != r.marks.repetition && c != r.marks.component
}

// take lays down a segment that may come.
func (r *reader) take(tag string, elems []string) error {
	switch tag {
	case "GS":
		return r.openGroup(elems)
	case "ST":
		return r.openSet(elems)
	case "SE":
		return r.closeSet(elems)
	case "GE":
		return r.closeGroup(elems)
	case "IEA":
		return r.close(elems)
	}
	r.set.Segments = append(r.set.Segments, api.Segment{Tag: tag, Elems: elems})
	return nil
}

func (r *reader) openGroup(elems []string) error {
	r.behind, r.group, r.texts = "GS", api.Group{}, map[string]int{}
	g := &r.group
	return each(elems, keep(&g.Kind, isKind), keep(&g.From, isParty), keep(&g.To, isParty), keep(&g.Date, isLongDay), keep(&g.Time, isTime), r.groupControl, word("X"), word("005010"))
}

func (r *reader) groupControl(text string) error {
	if err := whole(&r.group.Control, 1, mostControl)(text); err != nil {
		return err
	}
	r.controls[r.group.Control]++
	return once(r.controls[r.group.Control])
}

func (r *reader) openSet(elems []string) error {
	id := idOf(r.group.Kind)
	r.behind, r.set = "ST", api.Set{Id: id}
	return each(elems, is(id, ErrSet), r.setControl)
}

func (r *reader) setControl(control string) error {
	if err := keep(&r.set.Control, isSetControl)(control); err != nil {
		return err
	}
	r.texts[r.set.Control]++
	return once(r.texts[r.set.Control])
}

func once(times int) error {
	if times > 1 {
		return ErrControl
	}
	return nil
}

func (r *reader) closeSet(elems []string) error {
	r.behind = "SE"
	r.group.Sets = append(r.group.Sets, r.set)
	return each(elems, count(len(r.set.Segments)+2), is(r.set.Control, ErrControl))
}

func (r *reader) closeGroup(elems []string) error {
	r.behind = "GE"
	r.whole.Groups = append(r.whole.Groups, r.group)
	return each(elems, count(len(r.group.Sets)), is(strconv.Itoa(r.group.Control), ErrControl))
}

func (r *reader) close(elems []string) error {
	r.behind = "IEA"
	return each(elems, count(len(r.whole.Groups)), is(filled(r.whole.Control, controlBytes), ErrControl))
}
