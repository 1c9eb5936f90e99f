package edi

import (
	"slices"
	"strconv"
	"strings"

	"larder/api"
)

// Print writes the text of an interchange; or tells the first fault that Parse would find in it.
func Print(i api.Interchange) (string, error) {
	text, _, err := settle(i)
	return text, err
}

// settle lays an interchange down, and answers its text and what Parse says of that, if this is the same.
func settle(i api.Interchange) (string, api.Interchange, error) {
	var p page
	p.layWhole(i)
	if p.long {
		return "", api.Interchange{}, &Fault{Err: ErrLong}
	}
	text := p.String()
	back, err := Parse(text)
	if err != nil {
		return "", api.Interchange{}, err
	}
	if !same(back, i) {
		return "", api.Interchange{}, &Fault{Err: ErrElement}
	}
	return text, back, nil
}

// page is an interchange's text while its segments are laid down. What is too long for it it does not hold, so that it stays small whatever it is given.
type page struct {
	strings.Builder
	long bool
}

func (p *page) put(text string) {
	p.long = p.long || p.Len()+len(text) > api.MaxEdi
	if !p.long {
		p.WriteString(text)
	}
}

// lay puts down a segment.
func (p *page) lay(tag string, elems ...string) {
	p.put(tag)
	for _, e := range elems {
		p.put("*")
		p.put(e)
	}
	p.put("~")
}

func (p *page) layWhole(i api.Interchange) {
	letter := "P"
	if i.Test {
		letter = "T"
	}
	blanks, control := padded("", 10), filled(i.Control, controlBytes)
	p.lay(headTag, "00", blanks, "00", blanks, "ZZ", padded(i.From, partyBytes), "ZZ", padded(i.To, partyBytes), i.Date, i.Time, "^", "00501", control, "0", letter, ":")
	for _, g := range i.Groups {
		p.layGroup(g)
	}
	p.lay("IEA", strconv.Itoa(len(i.Groups)), control)
}

func (p *page) layGroup(g api.Group) {
	control := strconv.Itoa(g.Control)
	p.lay("GS", g.Kind, g.From, g.To, g.Date, g.Time, control, "X", "005010")
	for _, s := range g.Sets {
		p.laySet(s)
	}
	p.lay("GE", strconv.Itoa(len(g.Sets)), control)
}

func (p *page) laySet(s api.Set) {
	p.lay("ST", s.Id, s.Control)
	for _, x := range s.Segments {
		p.lay(x.Tag, x.Elems...)
	}
	p.lay("SE", strconv.Itoa(len(s.Segments)+2), s.Control)
}

// padded writes blanks behind a text, so that it has so many bytes at least.
func padded(text string, bytes int) string {
	return text + strings.Repeat(" ", max(0, bytes-len(text)))
}

func same(a, b api.Interchange) bool {
	return a.From == b.From && a.To == b.To && a.Date == b.Date && a.Time == b.Time && a.Control == b.Control && a.Test == b.Test && slices.EqualFunc(a.Groups, b.Groups, sameGroup)
}

func sameGroup(a, b api.Group) bool {
	return a.Kind == b.Kind && a.From == b.From && a.To == b.To && a.Date == b.Date && a.Time == b.Time && a.Control == b.Control && slices.EqualFunc(a.Sets, b.Sets, sameSet)
}

func sameSet(a, b api.Set) bool {
	return a.Id == b.Id && a.Control == b.Control && slices.EqualFunc(a.Segments, b.Segments, sameSegment)
}

func sameSegment(a, b api.Segment) bool { return a.Tag == b.Tag && slices.Equal(a.Elems, b.Elems) }
