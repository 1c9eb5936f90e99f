package edi

import (
	"slices"
	"strings"

	"larder/api"
)

// take reads a segment of a document, and answers the tags that may come behind it; none behind the last.
type take func(s api.Segment) (next []string, err error)

// walk goes over the segments of a document that begins with the tag first.
func walk(s api.Set, id, first string, read take) error {
	if s.Id != id {
		return &Fault{Err: ErrSet}
	}
	next := []string{first}
	for n, segment := range s.Segments {
		if !slices.Contains(next, segment.Tag) {
			return &Fault{Segment: n, Err: ErrTag}
		}
		var err error
		if next, err = read(segment); err != nil {
			return onSegment(err, n)
		}
	}
	if len(next) > 0 {
		return &Fault{Segment: len(s.Segments), Err: ErrTag}
	}
	return nil
}

// room says whether a document with so many lines may have one more.
func room(lines int) error {
	if lines >= api.MaxDocLines {
		return &Fault{Err: ErrDocument}
	}
	return nil
}

func segment(tag string, elems ...string) api.Segment { return api.Segment{Tag: tag, Elems: elems} }

// built answers the set of a document, if it is read as that document.
func built[D any](s api.Set, document D, read func(api.Set) (D, error), same func(a, b D) bool) (api.Set, error) {
	back, err := read(s)
	if err != nil {
		return api.Set{}, err
	}
	if !same(back, document) {
		return api.Set{}, &Fault{Err: ErrDocument}
	}
	return own(s), nil
}

// own gives a set of this package texts of its own; no sooner than it is taken, so that texts of any size are not copied in vain.
func own(s api.Set) api.Set {
	s.Control = strings.Clone(s.Control)
	for _, x := range s.Segments {
		for i, e := range x.Elems {
			x.Elems[i] = strings.Clone(e)
		}
	}
	return s
}

// isNumber says whether a document may be called so.
func isNumber(text string) bool {
	return len(text) >= 1 && len(text) <= 22 && all(text, func(c byte) bool { return isSign(c) || c == '-' })
}
