package desk_test

import (
	"cmp"
	"fmt"
	"reflect"
	"regexp"
	"slices"
	"strconv"
	"strings"
	"testing"
	"time"

	"larder/api"
	"larder/cal"
	"larder/desk"
	"larder/edi"
	"larder/gtin"
	"larder/lin"
	"larder/mend"
	"larder/sched"
	"larder/sheet"
	"larder/till"
)

// twin is a second shop, written from the document over the layers below. It finds faults by laying all that may be wrong with a line side by side, and takes the one most to the left.
type twin struct {
	c       api.Config
	u       *till.Till
	waiting [][]*job // by desk, from 1 on
	work    []*job
	number  int
	control int
	out     strings.Builder
	deaf    bool // replies are told to nobody

	tally map[string]int
}

// job is a request with where it came from.
type job struct {
	r       api.Request
	command int        // -1: a document
	reply   *api.Reply // of a document: where it goes; nil: nowhere any more
}

func twinOf(t *testing.T, c api.Config, tally map[string]int) *twin {
	t.Helper()
	image, _ := mend.Format(c)
	u, e := till.Open(image, c)
	if e != api.OK {
		t.Fatalf("till.Open: %d", e)
	}
	return &twin{c: c, u: u, waiting: make([][]*job, c.Handlers+1), work: make([]*job, c.Handlers+1), control: 1, tally: tally}
}

func (w *twin) count(is bool, what string) {
	if is && w.tally != nil {
		w.tally[what]++
	}
}

// Faults.

var (
	wrongByte = regexp.MustCompile(`[^ -~]`)
	wordForm  = regexp.MustCompile(`[!-~]+`)
	numeral   = regexp.MustCompile(`^(0|-?[1-9][0-9]*)$`)
)

// faultOf answers the first fault of a script; the zero fault, if it has none.
func faultOf(script string) fault {
	if len(script) > 65536 {
		line, column := 1, 0
		for i := range 65536 {
			column++
			if script[i] == '\n' {
				line, column = line+1, 0
			}
		}
		return fault{desk.ErrLong, line, column}
	}
	for i, text := range strings.Split(script, "\n") {
		if f := lineFault(text); f.err != nil {
			f.line = i + 1
			return f
		}
	}
	return fault{}
}

// lineFault answers the first fault of a line.
func lineFault(text string) fault {
	if at := wrongByte.FindStringIndex(text); at != nil {
		return fault{desk.ErrByte, 0, at[0]}
	}
	spans := wordForm.FindAllStringIndex(text, -1)
	words := wordForm.FindAllString(text, -1)
	if len(words) == 0 || words[0][0] == '#' {
		return fault{}
	}
	// column answers that of a word, or the line's end.
	column := func(i int) int {
		if i < len(spans) {
			return spans[i][0]
		}
		return len(text)
	}
	if len(words) > 80 {
		return fault{desk.ErrWords, 0, column(80)}
	}
	at, sort := 0, "plain"
	if words[0][0] == '@' {
		at, sort = 1, "desk"
		if n, ok := number(words[0][1:]); !ok || n < 1 {
			return fault{desk.ErrDesk, 0, column(0)}
		}
	}
	word := ""
	if at < len(words) {
		word = words[at]
	}
	if sort == "plain" && word == "crash" {
		return crashFault(words, column)
	}
	f, known := forms()[sort+" "+word]
	if !known {
		return fault{desk.ErrCommand, 0, column(at)}
	}
	return f.fault(words[at+1:], func(i int) int { return column(at + 1 + i) })
}

// number reads a number by the document's words.
func number(text string) (int, bool) {
	n, err := strconv.ParseInt(text, 10, 64)
	return int(n), err == nil && numeral.MatchString(text)
}

// now reads a NOW.
func now(text string) (int, bool) {
	if n, ok := number(text); ok {
		return n, true
	}
	second, e, _ := cal.ParseInstant(text)
	return second - 62167219200, e == api.OK && strings.Contains(text, "T")
}

// form is what stands behind a command's word: w any word, n a number, t a NOW; what may be left out; what comes once or more behind the rest.
type form struct{ fixed, maybe, more string }

func forms() map[string]form {
	return map[string]form{
		"desk restock": {fixed: "w", more: "wn"}, "desk writeoff": {fixed: "w", more: "wn"}, "desk hold": {fixed: "wn", more: "wn"},
		"desk commit": {fixed: "ww"}, "desk release": {fixed: "ww"}, "desk extend": {fixed: "wwn"},
		"desk read": {fixed: "w", more: "w"}, "desk tick": {fixed: "wt"}, "desk save": {fixed: "w"},
		"plain run": {maybe: "n"}, "plain pick": {fixed: "nn"}, "plain mix": {fixed: "nnn"},
		"plain goods": {}, "plain holds": {}, "plain check": {},
	}
}

// slots answers what each of so many words should be, with a - for those that are too many; and whether one is missing.
func (f form) slots(words int) (string, bool) {
	l := f.fixed
	if f.more == "" {
		if words > len(l) {
			l += f.maybe
		}
		return l + strings.Repeat("-", max(0, words-len(l))), words < len(f.fixed)
	}
	l += f.more
	for len(l) < words {
		l += f.more
	}
	return l, words < len(l)
}

func (f form) fault(words []string, column func(int) int) fault {
	slots, missing := f.slots(len(words))
	var l []fault
	if missing {
		l = append(l, fault{desk.ErrWords, 0, column(len(words))})
	}
	for i, word := range words {
		_, isNumber := number(word)
		_, isNow := now(word)
		switch {
		case slots[i] == '-':
			l = append(l, fault{desk.ErrWords, 0, column(i)})
		case slots[i] == 'n' && !isNumber || slots[i] == 't' && !isNow:
			l = append(l, fault{desk.ErrNumber, 0, column(i)})
		}
	}
	return leftmost(l)
}

func leftmost(l []fault) fault {
	if len(l) == 0 {
		return fault{}
	}
	return slices.MinFunc(l, func(f, g fault) int { return cmp.Compare(f.column, g.column) })
}

// crashFault goes by the shapes that a crash may have: k and t for keep and torn, n for a number. Where the words stop being the beginning of one, there is the fault; what could stand there says which.
func crashFault(words []string, column func(int) int) fault {
	whole := regexp.MustCompile(`^(kn+)?(tnn)?$`)
	begins := func(shape string) bool {
		return slices.ContainsFunc([]string{"", "n", "nn", "tnn"}, func(rest string) bool { return whole.MatchString(shape + rest) })
	}
	shape := ""
	for i, word := range words[1:] {
		next := "x"
		if _, ok := number(word); ok {
			next = "n"
		} else if word == "keep" || word == "torn" {
			next = word[:1]
		}
		if !begins(shape + next) {
			switch {
			case begins(shape + "n"):
				return fault{desk.ErrNumber, 0, column(i + 1)}
			case begins(shape + "t"):
				return fault{desk.ErrCommand, 0, column(i + 1)}
			}
			return fault{desk.ErrWords, 0, column(i + 1)}
		}
		shape += next
	}
	if !whole.MatchString(shape) {
		return fault{desk.ErrWords, 0, column(len(words))}
	}
	return fault{}
}

// Desks.

func (w *twin) line(form string, args ...any) { fmt.Fprintf(&w.out, form+"\n", args...) }

func errText(e api.Errno) string {
	if e == 0 {
		return "OK"
	}
	return fmt.Sprintf("E%d", e)
}

// tell tells a reply to where the request came from.
func (w *twin) tell(n int, j *job, r api.Reply) {
	w.count(true, "reply "+errText(r.Err))
	w.count(j.command < 0 && j.reply == nil, "a document's reply told to nobody")
	if j.command < 0 {
		if j.reply != nil {
			*j.reply = r
		}
		return
	}
	w.count(w.deaf, "a command's reply told to nobody")
	if w.deaf {
		return
	}
	text := fmt.Sprintf("%d @%d %s %s", j.command, n, j.r.Id, errText(r.Err))
	if r.Line > 0 {
		text += fmt.Sprintf(" line %d", r.Line)
	}
	if r.Now != 0 {
		text += fmt.Sprintf(" now %d", r.Now)
	}
	for _, v := range r.Levels {
		text += fmt.Sprintf(" %s %d %d", v.Code, v.OnHand, v.Held)
	}
	w.line("%s", text)
}

func (w *twin) idle(n int) bool {
	phase, _ := w.u.Phase(n - 1)
	return phase == api.PhaseIdle
}

func (w *twin) pick(n int) bool {
	before := w.idle(n)
	if before && len(w.waiting[n]) > 0 {
		j := w.waiting[n][0]
		w.waiting[n] = w.waiting[n][1:]
		w.work[n] = j
		if e := w.u.Ask(n-1, j.r); e != api.OK {
			w.tell(n, j, api.Reply{Id: j.r.Id, Err: e})
		}
		return true
	}
	did := w.u.Pick(n - 1)
	if !before && w.idle(n) {
		r, _ := w.u.Reply(n - 1)
		w.tell(n, w.work[n], r)
	}
	return did
}

func (w *twin) rest() bool {
	for n := 1; n <= w.c.Handlers; n++ {
		if !w.idle(n) || len(w.waiting[n]) > 0 {
			return false
		}
	}
	return true
}

func (w *twin) run(most int) int {
	picks := 0
	for n := 1; picks < min(most, 100000) && !w.rest(); n = n%w.c.Handlers + 1 {
		w.pick(n)
		picks++
	}
	return picks
}

// Scripts.

func (w *twin) do(script string) (string, fault) {
	if f := faultOf(script); f.err != nil {
		return "", f
	}
	w.out.Reset()
	for _, text := range strings.Split(script, "\n") {
		words := strings.Fields(text)
		if len(words) == 0 || words[0][0] == '#' {
			continue
		}
		if words[0][0] == '@' {
			w.count(true, "command "+words[1])
			w.request(words)
		} else {
			w.count(true, "command "+words[0])
			w.command(words)
		}
		w.number++
	}
	return w.out.String(), fault{}
}

func kindNumber(word string) int {
	return slices.Index([]string{"", "restock", "writeoff", "hold", "commit", "release", "extend", "read", "tick", "save"}, word)
}

func num(text string) int {
	n, _ := now(text)
	return n
}

func (w *twin) request(words []string) {
	n := num(words[0][1:])
	r := api.Request{Kind: kindNumber(words[1]), Id: words[2]}
	rest := words[3:]
	pairs := func(l []string) {
		for i := 0; i < len(l); i += 2 {
			r.Lines = append(r.Lines, api.Line{Code: l[i], Qty: num(l[i+1])})
		}
	}
	switch words[1] {
	case "restock", "writeoff":
		pairs(rest)
	case "hold":
		r.Ttl = num(rest[0])
		pairs(rest[1:])
	case "commit", "release":
		r.Hold = rest[0]
	case "extend":
		r.Hold, r.Ttl = rest[0], num(rest[1])
	case "read":
		for _, code := range rest {
			r.Lines = append(r.Lines, api.Line{Code: code})
		}
	case "tick":
		r.Now = num(rest[0])
	}
	j := &job{r: r, command: w.number}
	switch {
	case n > w.c.Handlers:
		w.tell(n, j, api.Reply{Id: r.Id, Err: api.ErrHandler})
	case len(w.waiting[n]) == 64:
		w.tell(n, j, api.Reply{Id: r.Id, Err: api.ErrFull})
	default:
		w.waiting[n] = append(w.waiting[n], j)
	}
}

func (w *twin) command(words []string) {
	args := make([]int, 3)
	for i, word := range words[1:min(4, len(words))] {
		args[i] = num(word)
	}
	switch words[0] {
	case "run":
		most := greatest
		if len(words) > 1 {
			most = args[0]
		}
		picks := w.run(most)
		w.line("%d run %d", w.number, picks)
	case "pick":
		w.pickOften(args[0], args[1])
	case "mix":
		did, left := 0, min(args[2], 100000)
		for h := range sched.Mixed(uint64(int64(args[0])), w.c.Handlers, args[1]) {
			if left < 1 {
				break
			}
			left--
			if w.pick(h + 1) {
				did++
			}
		}
		w.line("%d mix %d", w.number, did)
	case "crash":
		w.crash(words[1:])
	default:
		w.tellStore(words[0])
	}
}

func (w *twin) pickOften(n, most int) {
	if n < 1 || n > w.c.Handlers {
		w.line("%d pick E70", w.number)
		return
	}
	did := 0
	for i := 0; i < min(most, 100000); i++ {
		if w.pick(n) {
			did++
		}
	}
	w.line("%d pick %d", w.number, did)
}

func (w *twin) crash(words []string) {
	c := api.Crash{Torn: -1}
	if at := slices.Index(words, "torn"); at >= 0 {
		c.Torn, c.Bytes = num(words[at+1]), num(words[at+2])
		words = words[:at]
	}
	for _, word := range words {
		if word != "keep" {
			c.Keep = append(c.Keep, num(word))
		}
	}
	var lost []*job
	desks := map[*job]int{}
	for n := 1; n <= w.c.Handlers; n++ {
		l := w.waiting[n]
		w.count(len(l) > 0, "a crash while requests wait")
		if !w.idle(n) {
			w.count(w.work[n].command < 0, "a crash while a document's request is at work")
			l = append([]*job{w.work[n]}, l...)
		}
		for _, j := range l {
			if j.command >= 0 {
				lost = append(lost, j)
				desks[j] = n
			}
		}
	}
	if e := w.u.Crash(c); e != api.OK {
		w.line("%d crash E%d", w.number, e)
		return
	}
	slices.SortFunc(lost, func(a, b *job) int { return cmp.Compare(a.command, b.command) })
	for _, j := range lost {
		w.line("%d @%d %s lost", j.command, desks[j], j.r.Id)
	}
	w.count(len(lost) > 1, "several lost")
	w.waiting = make([][]*job, w.c.Handlers+1)
	w.line("%d crash OK", w.number)
}

func (w *twin) tellStore(word string) {
	s := w.u.State()
	switch word {
	case "goods":
		w.line("%d goods %d", w.number, len(s.Levels))
		for _, v := range s.Levels {
			w.line("%s %d %d %d", v.Code, v.OnHand, v.Held, v.OnHand-v.Held)
		}
	case "holds":
		w.line("%d holds %d", w.number, len(s.Holds))
		for _, h := range s.Holds {
			text := fmt.Sprintf("%s %d", h.Id, h.Deadline)
			for _, x := range h.Lines {
				text += fmt.Sprintf(" %s %d", x.Code, x.Qty)
			}
			w.line("%s", text)
		}
	case "check":
		y := w.u.Story()
		word := "BAD"
		if good, _ := lin.Holds(y.Ops, y.Order, w.u.Start()); good {
			word = "OK"
		}
		w.line("%d check %s %d %d", w.number, word, len(y.Ops), y.Lives)
	}
}

// Documents.

// clock answers the store's day and time in one of package time's layouts.
func (w *twin) clock(layout string) string {
	second := min(int64(w.u.State().Now), time.Date(9999, 12, 31, 23, 59, 59, 0, time.UTC).Unix())
	return time.Unix(second, 0).UTC().Format(layout)
}

// asked asks a document's requests, and answers their replies.
func (w *twin) asked(list []api.Request) []api.Reply {
	w.deaf = true
	w.run(greatest)
	replies := make([]api.Reply, len(list))
	for i := range list {
		replies[i].Err = api.ErrBusy
		n := i%w.c.Handlers + 1
		w.waiting[n] = append(w.waiting[n], &job{list[i], -1, &replies[i]})
	}
	w.run(greatest)
	w.deaf = false
	for n := range w.waiting {
		was := len(w.waiting[n])
		w.waiting[n] = slices.DeleteFunc(slices.Clone(w.waiting[n]), func(j *job) bool { return j.command < 0 })
		w.count(len(w.waiting[n]) < was, "a document's request that still waited")
		if n > 0 && !w.idle(n) {
			w.count(w.work[n].command < 0, "a document's request still at work")
			w.work[n].reply = nil
		}
	}
	return replies
}

func (w *twin) take(text string) (string, error) {
	i, err := edi.Parse(text)
	if err != nil {
		return "", err
	}
	back, err := edi.Answer(i, w.control, w.clock("060102"), w.clock("1504"))
	if err != nil {
		return "", err
	}
	answer, _ := edi.Print(back)
	var orders []api.Order
	var list []api.Request
	for _, g := range i.Groups {
		for _, s := range g.Sets {
			o, err := edi.ReadOrder(s)
			w.count(s.Id == "850" && err != nil, "an order that is none")
			if s.Id != "850" || err != nil {
				continue
			}
			orders = append(orders, o)
			r := api.Request{Id: i.From + "-" + o.Number, Kind: 3, Ttl: 604800}
			for _, x := range o.Lines {
				r.Lines = append(r.Lines, api.Line{Code: x.Code, Qty: x.Qty})
			}
			list = append(list, r)
		}
	}
	for _, r := range w.asked(list) {
		w.count(r.Err == api.OK, "an order held")
		w.count(r.Err != api.OK, "an order not held")
	}
	answer += "\n" + w.advices(i, orders)
	w.control = w.control%999999999 + 1
	w.count(true, "taken")
	return answer, nil
}

// advices answers what Take tells behind the acknowledgement.
func (w *twin) advices(i api.Interchange, orders []api.Order) string {
	var sets []api.Set
	for _, o := range orders {
		a := api.Advice{Number: o.Number, Date: w.clock("20060102")}
		seen := map[string]bool{}
		for _, x := range o.Lines {
			for _, v := range w.u.State().Levels {
				if v.Code == x.Code && !seen[x.Code] {
					a.Lines = append(a.Lines, api.AdviceLine{Code: v.Code, OnHand: v.OnHand, Free: v.OnHand - v.Held})
					seen[x.Code] = true
				}
			}
		}
		if len(a.Lines) == 0 {
			w.count(true, "an order of no code of the store's")
			continue
		}
		s, err := edi.BuildAdvice(a, fmt.Sprintf("%04d", len(sets)+1))
		if err != nil {
			w.count(true, "an advice that is refused")
			continue
		}
		sets = append(sets, s)
	}
	if len(sets) == 0 {
		return ""
	}
	text, err := edi.Print(w.letter(i.To, i.From, i.Test, sets...))
	if err != nil {
		w.count(true, "advices that are too long")
		return ""
	}
	return text + "\n"
}

func (w *twin) letter(from, to string, test bool, sets ...api.Set) api.Interchange {
	g := api.Group{Kind: "IB", From: from, To: to, Date: w.clock("20060102"), Time: w.clock("1504"), Control: w.control, Sets: sets}
	return api.Interchange{From: from, To: to, Date: w.clock("060102"), Time: w.clock("1504"), Control: w.control, Test: test, Groups: []api.Group{g}}
}

func (w *twin) advice(number string) (string, error) {
	a := api.Advice{Number: number, Date: w.clock("20060102")}
	for _, v := range w.u.State().Levels {
		if e, _ := gtin.Check(v.Code); e == api.OK && len(v.Code) != 18 && v.OnHand <= 1e15 && len(a.Lines) < 200 {
			a.Lines = append(a.Lines, api.AdviceLine{Code: v.Code, OnHand: v.OnHand, Free: v.OnHand - v.Held})
		}
	}
	s, err := edi.BuildAdvice(a, "0001")
	if err != nil {
		return "", err
	}
	text, err := edi.Print(w.letter("STORE", "STORE", false, s))
	if err != nil {
		return "", err
	}
	w.control = w.control%999999999 + 1
	w.count(true, "advised")
	return text, nil
}

func (w *twin) fill(text string) (string, error) {
	rows, err := sheet.Parse(text)
	if err != nil {
		return "", err
	}
	must := func(name string) api.Column { return api.Column{Name: name, Kind: api.CellText, Must: true} }
	may := func(name string, kind int) api.Column { return api.Column{Name: name, Kind: kind} }
	cells, err := sheet.Typed(rows, []api.Column{must("id"), must("what"), may("code", api.CellText), may("qty", api.CellInt), may("hold", api.CellText), may("ttl", api.CellInt), may("now", api.CellInt)})
	if err != nil {
		return "", err
	}
	var list []api.Request
	var whats []string
	for i := 0; i < len(cells); {
		first := cells[i]
		r := api.Request{Id: first[0].Text, Kind: max(0, kindNumber(first[1].Text)), Hold: first[4].Text, Ttl: first[5].Num, Now: first[6].Num}
		begin := i
		for ; i < len(cells) && cells[i][0] == first[0] && cells[i][1] == first[1]; i++ {
			if cells[i][2].Kind != api.CellNone {
				r.Lines = append(r.Lines, api.Line{Code: cells[i][2].Text, Qty: cells[i][3].Num})
			}
		}
		w.count(i > begin+1, "rows of one request")
		list, whats = append(list, r), append(whats, first[1].Text)
	}
	answer := [][]string{{"id", "what", "answer", "line", "now"}}
	blank := func(n int) string {
		if n == 0 {
			return ""
		}
		return fmt.Sprint(n)
	}
	for i, r := range w.asked(list) {
		answer = append(answer, []string{list[i].Id, whats[i], errText(r.Err), blank(r.Line), blank(r.Now)})
	}
	w.count(true, "filled")
	return sheet.Print(answer)
}

// pair is a shop with its twin: what is done with one is done with the other, and they answer and look alike.
type pair struct {
	t      *testing.T
	d      *desk.Desk
	w      *twin
	broken bool
}

func pairOf(t *testing.T, c api.Config, tally map[string]int) *pair {
	t.Helper()
	return &pair{t: t, d: opened(t, c), w: twinOf(t, c, tally)}
}

func (p *pair) fail(form string, args ...any) {
	p.t.Helper()
	p.broken = true
	p.t.Errorf(form, args...)
}

// compare asks that both look alike.
func (p *pair) compare(what string) {
	p.t.Helper()
	if got, want := looksOf(p.d), (looks{p.w.u.State(), p.w.u.Story()}); !equal(got, want) {
		p.fail("behind %s: %s, want %s", what, show(got), show(want))
	}
}

func (p *pair) do(script string) string {
	p.t.Helper()
	text, err := p.d.Do(script)
	wanted, f := p.w.do(script)
	if text != wanted || told(err) != f {
		p.fail("Do(%.600q):\n%s%v, want\n%s%v", script, text, told(err), wanted, f)
	}
	p.compare(fmt.Sprintf("Do(%.400q)", script))
	return text
}

func (p *pair) take(text string) string {
	p.t.Helper()
	return p.paper("Take", text, p.d.Take, p.w.take)
}

func (p *pair) fill(text string) string {
	p.t.Helper()
	return p.paper("Fill", text, p.d.Fill, p.w.fill)
}

func (p *pair) advice(number string) string {
	p.t.Helper()
	return p.paper("Advice", number, p.d.Advice, p.w.advice)
}

func (p *pair) paper(what, text string, got, wanted func(string) (string, error)) string {
	p.t.Helper()
	x, err := got(text)
	y, e := wanted(text)
	if x != y || !reflect.DeepEqual(err, e) {
		p.fail("%s(%.600q):\n%q, %v, want\n%q, %v", what, text, x, err, y, e)
	}
	p.compare(fmt.Sprintf("%s(%.400q)", what, text))
	return x
}
