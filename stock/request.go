package stock

import (
	"slices"
	"strings"

	"larder/api"
)

// Check says whether a request is well formed: its first fault, and the number of the line that has it.
func Check(r api.Request) (api.Errno, int) {
	k, known := ruleOf(r.Kind)
	switch {
	case !isId(r.Id):
		return api.ErrId, 0
	case !known:
		return api.ErrKind, 0
	case len(r.Lines) > 0 && !k.lines, r.Hold != "" && !k.hold, r.Ttl != 0 && !k.ttl, r.Now != 0 && !k.now:
		return api.ErrUnused, 0
	}
	if k.lines {
		if e, i := checkLines(r); e != api.OK {
			return e, i
		}
	}
	switch {
	case k.hold && !isId(r.Hold):
		return api.ErrHold, 0
	case k.ttl && (r.Ttl < 1 || r.Ttl > api.MaxTtl):
		return api.ErrTtl, 0
	case k.now && (r.Now < 0 || r.Now > api.MaxNow):
		return api.ErrNow, 0
	}
	return api.OK, 0
}

// checkLines answers the first fault of a request's lines, and the number of its line.
func checkLines(r api.Request) (api.Errno, int) {
	if len(r.Lines) == 0 || len(r.Lines) > api.MaxLines {
		return api.ErrLines, 0
	}
	sums := make(map[string]int, len(r.Lines))
	for i, x := range r.Lines {
		switch {
		case !isCode(x.Code):
			return api.ErrCode, i
		case !isQty(r.Kind, x.Qty):
			return api.ErrQty, i
		case x.Qty > api.MaxStock-sums[x.Code]:
			return api.ErrOver, i
		}
		sums[x.Code] += x.Qty
	}
	return api.OK, 0
}

// isQty says whether a line of a request of this kind may have that Qty: a Read asks for no number of goods.
func isQty(kind, qty int) bool {
	if kind == api.KindRead {
		return qty == 0
	}
	return qty >= 1
}

func isCode(s string) bool { return isText(s, api.MaxCode) }

func isId(s string) bool { return isText(s, api.MaxId) }

// isText says whether a text has 1 to most bytes, each of which is seen in print.
func isText(s string, most int) bool {
	if s == "" || len(s) > most {
		return false
	}
	for i := range len(s) {
		if s[i] < 33 || s[i] > 126 {
			return false
		}
	}
	return true
}

// Normal answers a request with one line a code, in order of codes. Requests that ask for the same have the same Normal.
func Normal(r api.Request) (api.Request, api.Errno, int) {
	if e, i := Check(r); e != api.OK {
		return api.Request{}, e, i
	}
	r.Lines = summed(r.Lines)
	return r, api.OK, 0
}

// summed answers lines with one a code, in order of codes.
func summed(lines []api.Line) []api.Line {
	l := copied(lines)
	slices.SortFunc(l, func(x, y api.Line) int { return strings.Compare(x.Code, y.Code) })
	n := 0
	for _, x := range l {
		if n > 0 && l[n-1].Code == x.Code {
			l[n-1].Qty += x.Qty
			continue
		}
		l[n] = x
		n++
	}
	// What is left behind the sums is not to be seen in the list's spare room.
	clear(l[n:])
	return l[:n]
}

// same says whether two requests that are their own Normals are equal.
func same(r, s api.Request) bool {
	return r.Id == s.Id && r.Kind == s.Kind && slices.Equal(r.Lines, s.Lines) && r.Hold == s.Hold && r.Ttl == s.Ttl && r.Now == s.Now
}

// Changes says whether a request of this kind can have an effect.
func Changes(kind int) bool {
	k, _ := ruleOf(kind)
	return k.effect != nil
}

// First answers the first reply of a request that is remembered.
func First(d api.Done) api.Reply {
	reply := api.Reply{Id: d.Request.Id}
	switch d.Request.Kind {
	case api.KindHold, api.KindExtend:
		reply.Now = d.At + d.Request.Ttl
	case api.KindTick:
		reply.Now = d.At
	}
	return reply
}
