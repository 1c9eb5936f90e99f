package edi_test

import (
	"regexp"
	"slices"
	"strconv"
	"strings"

	"larder/api"
	"larder/edi"
)

// The forms of elements, as section 5.1 says them.
const (
	dayForm     = `\d\d(?:(?:0[13578]|1[02])(?:0[1-9]|[12]\d|3[01])|(?:0[469]|11)(?:0[1-9]|[12]\d|30)|02(?:0[1-9]|1\d|2[0-8]))|(?:[02468][048]|[13579][26])0229`
	longDayForm = `\d\d(?:` + dayForm + `)`
	timeForm    = `(?:[01]\d|2[0-3])[0-5]\d`
	partyForm   = `[A-Z0-9]{1,15}`
	controlForm = `[1-9]\d{0,8}`
	setForm     = `\d{4,9}`
)

func fits(form, text string) bool { return formOf(form).MatchString(text) }

var forms = map[string]*regexp.Regexp{}

func formOf(form string) *regexp.Regexp {
	if forms[form] == nil {
		forms[form] = regexp.MustCompile(`\A(?:` + form + `)\z`)
	}
	return forms[form]
}

// headPlaces has for each element of the head its first place and the one behind its last, and its form.
func headPlaces() []struct {
	from, to int
	form     string
} {
	return []struct {
		from, to int
		form     string
	}{
		{4, 6, "00"}, {7, 17, " {10}"}, {18, 20, "00"}, {21, 31, " {10}"}, {32, 34, "ZZ"}, {35, 50, "[A-Z0-9]+ *"}, {51, 53, "ZZ"}, {54, 69, "[A-Z0-9]+ *"},
		{70, 76, dayForm}, {77, 81, timeForm}, {82, 83, `[\s\S]`}, {84, 89, "00501"}, {90, 99, `\d*[1-9]\d*`}, {100, 101, "0"}, {102, 103, "[TP]"}, {104, 105, `[\s\S]`},
	}
}

func headSlowly(text string) (api.Interchange, fault) {
	var i api.Interchange
	if !strings.HasPrefix(text+"ISA"[min(3, len(text)):], "ISA") {
		return i, fault{edi.ErrHead, 0, 0}
	}
	if len(text) < 106 {
		return i, fault{edi.ErrShort, 0, 0}
	}
	marks := string([]byte{text[3], text[82], text[104], text[105]})
	for n := range 4 {
		if !fits("[!-/:-@\\[-`{-~]", marks[n:n+1]) || strings.Count(marks, marks[n:n+1]) != 1 {
			return i, fault{edi.ErrSeparator, 0, 0}
		}
	}
	var elems []string
	for n, x := range headPlaces() {
		if text[x.from-1] != text[3] {
			return i, fault{edi.ErrHead, 0, n + 1}
		}
		if !fits(x.form, text[x.from:x.to]) {
			return i, fault{edi.ErrElement, 0, n + 1}
		}
		elems = append(elems, text[x.from:x.to])
	}
	i.From, i.To = strings.Trim(elems[5], " "), strings.Trim(elems[7], " ")
	i.Date, i.Time, i.Test = elems[8], elems[9], elems[14] == "T"
	i.Control, _ = strconv.Atoi(elems[12])
	return i, fault{}
}

// A sequence of segments is written as letters: H for the head, G, S, x for a set's own, E, e, I. These are the beginnings of those that may be.
const sequences = `H|H(G(Sx*E)+e)*G|H(G(Sx*E)+e)*G(Sx*E)*Sx*|H(G(Sx*E)+e)*G(Sx*E)+|H(G(Sx*E)+e)+I?`

func letterOf(tag string) string {
	switch {
	case !fits("[A-Z][A-Z0-9]{1,2}", tag):
		return "?"
	case tag == "IEA" || tag == "ISA":
		return tag[:1] + map[string]string{"ISA": "!", "IEA": ""}[tag]
	case slices.Contains([]string{"GS", "ST", "SE", "GE"}, tag):
		return map[string]string{"GS": "G", "ST": "S", "SE": "E", "GE": "e"}[tag]
	}
	return "x"
}

// parseSlowly goes over the whole text again for each segment, as the list of section 5.2 is written.
func parseSlowly(text string) (api.Interchange, fault) {
	if len(text) > 65536 {
		return api.Interchange{}, fault{edi.ErrLong, 0, 0}
	}
	i, f := headSlowly(text)
	if f != (fault{}) {
		return api.Interchange{}, f
	}
	rest, came := text[106:], "H"
	for number := 1; ; number++ {
		for fits(`[\r\n]`, rest[:min(1, len(rest))]) {
			rest = rest[1:]
		}
		if strings.HasSuffix(came, "I") {
			if rest != "" {
				return api.Interchange{}, fault{edi.ErrTail, number, 0}
			}
			return i, fault{}
		}
		body, behind, ended := strings.Cut(rest, text[105:106])
		if !ended {
			return api.Interchange{}, fault{edi.ErrShort, number, 0}
		}
		rest = behind
		parts := strings.Split(body, text[3:4])
		came += letterOf(parts[0])
		if !fits(sequences, came) {
			return api.Interchange{}, fault{edi.ErrTag, number, 0}
		}
		if n := wrongElement(parts[1:], text[82:83]+text[104:105]); n > 0 {
			return api.Interchange{}, fault{edi.ErrElement, number, n}
		}
		if err, n := envelopeSlowly(&i, parts[0], parts[1:]); err != nil {
			return api.Interchange{}, fault{err, number, n}
		}
	}
}

func wrongElement(elems []string, marks string) int {
	if len(elems) > 32 {
		return 33
	}
	for n, e := range elems {
		if !fits("[ -~]{0,80}", e) || strings.ContainsAny(e, marks) || n+1 == len(elems) && e == "" {
			return n + 1
		}
	}
	return 0
}

// A want is what an element of an envelope must be: of a form, or just one text; and what is told if it is not.
type want struct {
	form, text string
	err        error
}

func envelopeSlowly(i *api.Interchange, tag string, elems []string) (error, int) {
	var g *api.Group
	var s *api.Set
	if len(i.Groups) > 0 {
		g = &i.Groups[len(i.Groups)-1]
		if len(g.Sets) > 0 {
			s = &g.Sets[len(g.Sets)-1]
		}
	}
	form := func(f string) want { return want{form: f, err: edi.ErrElement} }
	var wants []want
	switch tag {
	case "GS":
		wants = []want{form("PO|IB|FA"), form(partyForm), form(partyForm), form(longDayForm), form(timeForm), form(controlForm), form("X"), form("005010")}
	case "ST":
		wants = []want{{text: idOf(g.Kind), err: edi.ErrSet}, form(setForm)}
	case "SE":
		wants = []want{{text: strconv.Itoa(len(s.Segments) + 2), err: edi.ErrCount}, {text: s.Control, err: edi.ErrControl}}
	case "GE":
		wants = []want{{text: strconv.Itoa(len(g.Sets)), err: edi.ErrCount}, {text: strconv.Itoa(g.Control), err: edi.ErrControl}}
	case "IEA":
		wants = []want{{text: strconv.Itoa(len(i.Groups)), err: edi.ErrCount}, {text: nine(i.Control), err: edi.ErrControl}}
	default:
		s.Segments = append(s.Segments, api.Segment{Tag: tag, Elems: elems})
		return nil, 0
	}
	if len(elems) != len(wants) {
		return edi.ErrElement, min(len(elems), len(wants)) + 1
	}
	for n, w := range wants {
		if w.form != "" && !fits(w.form, elems[n]) || w.form == "" && elems[n] != w.text {
			return w.err, n + 1
		}
		if tag == "GS" && n == 5 && slices.ContainsFunc(i.Groups, func(g api.Group) bool { return strconv.Itoa(g.Control) == elems[5] }) {
			return edi.ErrControl, 6
		}
		if tag == "ST" && n == 1 && slices.ContainsFunc(g.Sets, func(s api.Set) bool { return s.Control == elems[1] }) {
			return edi.ErrControl, 2
		}
	}
	switch tag {
	case "GS":
		control, _ := strconv.Atoi(elems[5])
		i.Groups = append(i.Groups, api.Group{Kind: elems[0], From: elems[1], To: elems[2], Date: elems[3], Time: elems[4], Control: control})
	case "ST":
		g.Sets = append(g.Sets, api.Set{Id: elems[0], Control: elems[1]})
	}
	return nil, 0
}
