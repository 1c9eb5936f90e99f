package gtin

import (
	"strings"

	"larder/api"
)

// PrintShown answers l as people read it; Print's error and number, if Print does not take it.
func PrintShown(l []api.Element) (string, api.Errno, int) {
	if _, e, i := Print(l); e != api.OK {
		return "", e, i
	}
	var b strings.Builder
	for _, x := range l {
		b.WriteString("(" + x.Ai + ")")
		for i := range len(x.Value) {
			c := x.Value[i]
			if isBracket(c) {
				b.WriteByte(c)
			}
			b.WriteByte(c)
		}
	}
	return b.String(), api.OK, 0
}

// ParseShown reads what PrintShown writes; else an error, and its place or, if it is one that Print tells, the number of the element.
func ParseShown(text string) ([]api.Element, api.Errno, int) {
	if len(text) > api.MaxShown {
		return nil, api.ErrLong, 0
	}
	var l []api.Element
	for at := 0; at < len(text); {
		ai, from, e, place := shownAi(text, at)
		if e != api.OK {
			return nil, e, place
		}
		value, to, ok := shownValue(text, from)
		if !ok {
			return nil, api.ErrOpen, to
		}
		l = append(l, api.Element{Ai: ai, Value: value})
		at = to
	}
	if _, e, i := Print(l); e != api.OK {
		return nil, e, i
	}
	return l, api.OK, 0
}

func isBracket(c byte) bool { return c == '(' || c == ')' }

// shownAi reads the Ai in its brackets at the place at, and answers where its Value begins.
func shownAi(text string, at int) (string, int, api.Errno, int) {
	if text[at] != '(' {
		return "", 0, api.ErrOpen, at
	}
	n := strings.IndexByte(text[at:], ')')
	if n < 0 {
		return "", 0, api.ErrShort, len(text)
	}
	ai := text[at+1 : at+n]
	if _, ok := kindOf(ai); !ok {
		return "", 0, api.ErrAi, at + 1
	}
	return strings.Clone(ai), at + n + 1, api.OK, 0
}

// shownValue reads the Value that begins at the place at, and answers where it ends; or false and the place of a bracket that closes nothing.
func shownValue(text string, at int) (string, int, bool) {
	var b strings.Builder
	for at < len(text) {
		c := text[at]
		if isBracket(c) {
			if twice := at+1 < len(text) && text[at+1] == c; !twice {
				return b.String(), at, c == '('
			}
			at++
		}
		b.WriteByte(c)
		at++
	}
	return b.String(), at, true
}
