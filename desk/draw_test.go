package desk_test

import (
	"fmt"
	"math/rand"
	"slices"
	"strings"

	"larder/api"
	"larder/edi"
	"larder/sheet"
)

// writer draws scripts, interchanges and sheets that get in each other's way.
type writer struct {
	r        *rand.Rand
	codes    []string
	handlers int
	ids      int
	past     []string // lines of requests
	papers   []string // interchanges
	calm     bool     // few crashes
}

func pick[T any](r *rand.Rand, l ...T) T { return l[r.Intn(len(l))] }

// id answers a new one, or one that others have too.
func (d *writer) id() string {
	if d.r.Intn(5) == 0 {
		return "k" + fmt.Sprint(d.r.Intn(6))
	}
	d.ids++
	return "q" + fmt.Sprint(d.ids)
}

// name answers the name of a hold, most often of one that was made.
func (d *writer) name() string {
	if d.r.Intn(3) == 0 {
		return "k" + fmt.Sprint(d.r.Intn(6))
	}
	return "q" + fmt.Sprint(max(1, d.ids-d.r.Intn(8)))
}

func (d *writer) code() string {
	if d.r.Intn(40) == 0 {
		return "zz"
	}
	return pick(d.r, d.codes...)
}

func (d *writer) desk() string {
	if d.r.Intn(50) == 0 {
		return pick(d.r, fmt.Sprint(d.handlers+1), "17", "9223372036854775807")
	}
	return fmt.Sprint(1 + d.r.Intn(d.handlers))
}

// pairs answers codes with numbers from 1 on.
func (d *writer) pairs(most, qty int) string {
	text := ""
	for range 1 + d.r.Intn(most) {
		text += fmt.Sprintf(" %s %d", d.code(), 1+d.r.Intn(qty))
	}
	return text
}

// request draws the line of one, without its desk: at times one that came already.
func (d *writer) request() string {
	if len(d.past) > 0 && d.r.Intn(7) == 0 {
		return d.past[max(0, len(d.past)-1-d.r.Intn(10))]
	}
	text := d.fresh()
	d.past = append(d.past, text)
	return text
}

func (d *writer) fresh() string {
	switch n := d.r.Intn(100); {
	case n < 26:
		return "restock " + d.id() + d.pairs(3, 9)
	case n < 33:
		return "writeoff " + d.id() + d.pairs(3, 3)
	case n < 52:
		return fmt.Sprintf("hold %s %d%s", d.id(), pick(d.r, 1, 9, 40, 200000), d.pairs(3, 3))
	case n < 60:
		return fmt.Sprintf("commit %s %s", d.id(), d.name())
	case n < 66:
		return fmt.Sprintf("release %s %s", d.id(), d.name())
	case n < 71:
		return fmt.Sprintf("extend %s %s %d", d.id(), d.name(), 1+d.r.Intn(60))
	case n < 85:
		text := "read " + d.id()
		for range 1 + d.r.Intn(4) {
			text += " " + d.code()
		}
		return text
	case n < 89:
		return fmt.Sprintf("tick %s %s", d.id(), pick(d.r, "3", "20", "90000", "1970-01-01T00:01Z", "1970-01-02T12:00:00+01:30", "19700103T02-12", "1969-12-31T23:59:59Z", "-7", "3000000000"))
	case n < 94:
		return "save " + d.id()
	case n < 97:
		return fmt.Sprintf("restock %s %s %s", d.id(), d.code(), pick(d.r, "0", "-1", "9223372036854775807", "2000000000000000"))
	default:
		return fmt.Sprintf("hold %s %s %s 1", d.id(), pick(d.r, "0", "-9223372036854775808", "2147483649"), d.code())
	}
}

// line draws one of a script.
func (d *writer) line() string {
	switch n := d.r.Intn(100); {
	case n < 52:
		return "@" + d.desk() + " " + d.request()
	case n < 62:
		return pick(d.r, "run", "run", "run", fmt.Sprintf("run %d", d.r.Intn(60)), "run -5", "run 100001")
	case n < 70:
		return fmt.Sprintf("pick %s %d", d.desk(), d.r.Intn(25)-1)
	case n < 79:
		return fmt.Sprintf("mix %d %d %d", int64(d.r.Uint64()), 2*d.handlers-1+d.r.Intn(6)-d.r.Intn(2), d.r.Intn(90)-2)
	case n < 86:
		return d.crash()
	case n < 94:
		return pick(d.r, "goods", "holds", "check")
	default:
		return pick(d.r, "", "# a word @1", "  ", "#")
	}
}

func (d *writer) crash() string {
	if d.calm && d.r.Intn(4) > 0 {
		return "check"
	}
	text := "crash"
	if d.r.Intn(3) > 0 {
		text += " keep"
		for range 1 + d.r.Intn(4) {
			text += fmt.Sprintf(" %d", d.r.Intn(5)-1)
		}
	}
	if d.r.Intn(3) > 0 {
		text += fmt.Sprintf(" torn %d %d", d.r.Intn(4)-1, d.r.Intn(136)-3)
	}
	return text
}

// spaced lays blanks into a line where they make no odds.
func (d *writer) spaced(text string) string {
	if d.r.Intn(3) > 0 {
		return text
	}
	gap := func() string { return strings.Repeat(" ", d.r.Intn(3)) }
	return gap() + strings.ReplaceAll(text, " ", gap()+" ") + gap()
}

func (d *writer) script(most int) string {
	var l []string
	for range d.r.Intn(most + 1) {
		l = append(l, d.spaced(d.line()))
	}
	return strings.Join(l, "\n") + pick(d.r, "\n", "")
}

// spoilt draws a script whose lines have been changed in some places, and may have faults.
func (d *writer) spoilt() string {
	lines := strings.Split(d.script(4), "\n")
	for range 1 + d.r.Intn(2) {
		i := d.r.Intn(len(lines))
		lines[i] = d.spoilLine(lines[i])
	}
	return strings.Join(lines, "\n")
}

func (d *writer) spoilLine(text string) string {
	words := strings.Fields(text)
	wrong := func() string {
		return pick(d.r, "x", "07", "-0", "-", "+1", "1.0", "9223372036854775808", "-9223372036854775809", "T", "1970-01-01T", "1970-01-01T25Z", "@1", "@", "@0", "keep", "torn", "run", "hold", "#", "0", "5", "-3")
	}
	at := d.r.Intn(len(words) + 1)
	switch n := d.r.Intn(10); {
	case n < 2:
		words = words[:at]
	case n < 4 && at < len(words):
		words = slices.Delete(words, at, at+1)
	case n < 7 && at < len(words):
		words[at] = wrong()
	case n < 9:
		words = slices.Insert(words, at, wrong())
	default:
		i := d.r.Intn(len(text) + 1)
		return text[:i] + string([]byte{byte(d.r.Intn(256))}) + text[i:]
	}
	return d.spaced(strings.Join(words, " "))
}

// Interchanges.

// tradeCodes answers those of the store's codes that an order can name, and one that the store has not.
func (d *writer) tradeCodes() []string {
	l := []string{"4006381333931"}
	for _, code := range d.codes {
		if len(code) == 8 && strings.Trim(code, "0123456789") == "" {
			l = append(l, code)
		}
	}
	return l
}

func (d *writer) order() api.Order {
	o := api.Order{Number: fmt.Sprintf("N-%d", d.r.Intn(40)), Date: "20260131"}
	codes := d.tradeCodes()
	most := pick(d.r, 1, 2, 3, 3, 4, 40)
	for range 1 + d.r.Intn(most) {
		x := api.OrderLine{Qty: pick(d.r, 1, 1, 2, 3, 999999999), Cents: d.r.Intn(1000), Code: pick(d.r, codes...)}
		if d.r.Intn(4) > 0 {
			x.Code = codes[len(codes)-1-d.r.Intn(len(codes)-min(1, len(codes)-1))]
		}
		o.Lines = append(o.Lines, x)
	}
	return o
}

// set draws a set of a kind, at times one that Read refuses.
func (d *writer) set(kind string, control string) api.Set {
	var s api.Set
	switch kind {
	case "PO":
		s, _ = edi.BuildOrder(d.order(), control)
	case "IB":
		s, _ = edi.BuildAdvice(api.Advice{Number: "V", Date: "20260131", Lines: []api.AdviceLine{{Code: goodA, OnHand: 5, Free: 2}}}, control)
	default:
		s, _ = edi.BuildAck(api.Ack{Kind: "PO", Control: 5, Sets: []api.AckSet{{Id: "850", Control: "0001", Ok: true}}}, control)
	}
	if d.r.Intn(5) == 0 {
		i := d.r.Intn(len(s.Segments))
		l := s.Segments[i].Elems
		l[d.r.Intn(len(l))] = pick(d.r, "9", "X", "0")
	}
	return s
}

// interchange draws the text of one: at times one that came already, with other separators, or with a fault.
func (d *writer) interchange() string {
	if len(d.papers) > 0 && d.r.Intn(5) == 0 {
		return pick(d.r, d.papers...)
	}
	i := api.Interchange{From: pick(d.r, "SHOP", "A", "B2"), To: "STORE", Date: "260131", Time: "0915", Control: 1 + d.r.Intn(99), Test: d.r.Intn(4) == 0}
	for g := range 1 + d.r.Intn(3) {
		x := api.Group{Kind: pick(d.r, "PO", "PO", "PO", "IB", "FA"), From: i.From, To: i.To, Date: "20260131", Time: "0915", Control: 7 + g}
		for s := range 1 + d.r.Intn(4) {
			x.Sets = append(x.Sets, d.set(x.Kind, fmt.Sprintf("%04d", s+1)))
		}
		i.Groups = append(i.Groups, x)
	}
	text, err := edi.Print(i)
	if err != nil {
		return "ISA"
	}
	switch d.r.Intn(10) {
	case 0:
		text = text[:d.r.Intn(len(text))]
	case 1:
		at := d.r.Intn(len(text))
		text = text[:at] + "7" + text[at+1:]
	case 2:
		text = strings.NewReplacer("*", "|", "^", "!", ":", "?", "~", "'").Replace(text)
	case 3:
		text = strings.ReplaceAll(text, "~", "~\r\n")
	}
	d.papers = append(d.papers, text)
	return text
}

// Sheets.

// sheet draws the text of one, its columns in any order, at times with a fault.
func (d *writer) sheet(most int) string {
	names := []string{"id", "what", "code", "qty", "hold", "ttl", "now", "note"}
	places := d.r.Perm(len(names))
	shuffled := func(l []string) []string {
		out := make([]string, len(l))
		for i, at := range places {
			out[at] = l[i]
		}
		return out
	}
	rows := [][]string{shuffled(names)}
	for range d.r.Intn(most + 1) {
		for _, row := range d.rows() {
			rows = append(rows, shuffled(row))
		}
	}
	switch d.r.Intn(20) {
	case 0:
		rows[d.r.Intn(len(rows))][d.r.Intn(len(names))] = ""
	case 1:
		rows[d.r.Intn(len(rows))][d.r.Intn(len(names))] = "x"
	case 2:
		rows[0][d.r.Intn(len(names))] = pick(d.r, names...)
	}
	text, err := sheet.Print(rows)
	if err != nil {
		return "x"
	}
	switch d.r.Intn(30) {
	case 0:
		return text[:d.r.Intn(len(text))]
	case 1:
		return text + "\""
	case 2:
		return strings.TrimSuffix(text, "\r\n")
	}
	return text
}

// rows draws the rows of a request, as sheets have them.
func (d *writer) rows() [][]string {
	l := rowsOf(d.request(), "")
	if d.r.Intn(12) == 0 {
		return [][]string{{d.id(), pick(d.r, "buy", "Hold", "hold,", "holds", "run", "\"x\""), pick(d.r, "", goodA), "", "", "", "", "n"}}
	}
	if d.r.Intn(8) == 0 {
		l[0][4+d.r.Intn(3)] = pick(d.r, "7", "0", "-1")
	}
	if d.r.Intn(8) == 0 {
		l = append(l, []string{l[0][0], l[0][1], "", "5", "x", "9", "9", ""})
	}
	return l
}

// rowsOf answers the rows of a sheet for the line of a request (without its desk).
func rowsOf(line, note string) [][]string {
	words := strings.Fields(line)
	row := func(code, qty, hold, ttl, now string) []string {
		return []string{words[1], words[0], code, qty, hold, ttl, now, note}
	}
	var l [][]string
	switch rest := words[2:]; words[0] {
	case "restock", "writeoff":
		for i := 0; i < len(rest); i += 2 {
			l = append(l, row(rest[i], rest[i+1], "", "", ""))
		}
	case "hold":
		for i := 1; i < len(rest); i += 2 {
			l = append(l, row(rest[i], rest[i+1], "", rest[0], ""))
		}
	case "commit", "release":
		l = append(l, row("", "", rest[0], "", ""))
	case "extend":
		l = append(l, row("", "", rest[0], rest[1], ""))
	case "read":
		for _, code := range rest {
			l = append(l, row(code, "", "", "", ""))
		}
	case "tick":
		l = append(l, row("", "", "", "", fmt.Sprint(num(rest[0]))))
	default:
		l = append(l, row("", "", "", "", ""))
	}
	return l
}
