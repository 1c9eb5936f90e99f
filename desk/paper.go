package desk

import (
	"slices"
	"strconv"
	"strings"

	"larder/api"
	"larder/cal"
	"larder/edi"
	"larder/gtin"
)

const (
	leastControl = 1
	mostControl  = 999999999
	mostTold     = 1000000000000000 // of goods, in an advice
	pallet       = 18               // digits of a code that is of no goods
	store        = "STORE"
)

// Take answers an interchange: it holds the goods of the orders that stand in it, acknowledges all that came, and advises what is there then.
func (d *Desk) Take(text string) (string, error) {
	if d.isShut() {
		return "", nil
	}
	came, err := edi.Parse(text)
	if err != nil {
		return "", err
	}
	now := clockAt(d.till.State().Now)
	ack, err := edi.Answer(came, d.control, now.day, now.time)
	if err != nil {
		return "", err
	}
	answer, err := edi.Print(ack)
	if err != nil {
		return "", err
	}
	answer += "\n"
	orders := ordersOf(came)
	d.ask(holdsOf(came.From, orders))
	s := d.till.State()
	// Without sets it is no interchange, and is refused like one that is too long.
	if advice, err := edi.Print(d.advice(came.To, came.From, came.Test, clockAt(s.Now), setsOf(orders, s))); err == nil {
		answer += advice + "\n"
	}
	d.goOn()
	return answer, nil
}

// Advice answers an interchange that tells what the whole store has.
func (d *Desk) Advice(number string) (string, error) {
	if d.isShut() {
		return "", nil
	}
	s := d.till.State()
	now := clockAt(s.Now)
	set, err := edi.BuildAdvice(api.Advice{Number: number, Date: now.long, Lines: tradeLines(s.Levels)}, setControl(1))
	if err != nil {
		return "", err
	}
	text, err := edi.Print(d.advice(store, store, false, now, []api.Set{set}))
	if err != nil {
		return "", err
	}
	d.goOn()
	return text, nil
}

// goOn lets the next interchange have the next number.
func (d *Desk) goOn() {
	d.control++
	if d.control > mostControl {
		d.control = leastControl
	}
}

// clock is a moment as documents write it.
type clock struct {
	day  string // YYMMDD
	long string // CCYYMMDD
	time string // HHMM
}

// clockAt answers that of a store's time, which may go on behind the last one of the calendar.
func clockAt(now int) clock {
	text, _ := cal.PrintInstant(min(api.Epoch+now, api.MaxSecond), 0)
	date, time, _ := strings.Cut(text, "T")
	long := strings.ReplaceAll(date, "-", "")
	return clock{long[2:], long, strings.ReplaceAll(time, ":", "")[:4]}
}

// ordersOf answers the purchase orders of an interchange, without those that are none.
func ordersOf(i api.Interchange) []api.Order {
	var l []api.Order
	for _, g := range i.Groups {
		for _, s := range g.Sets {
			if o, err := edi.ReadOrder(s); err == nil {
				l = append(l, o)
			}
		}
	}
	return l
}

// holdsOf answers what a party asks for by its orders.
func holdsOf(from string, orders []api.Order) []api.Request {
	var l []api.Request
	for _, o := range orders {
		r := api.Request{Id: from + "-" + o.Number, Kind: api.KindHold, Ttl: api.OrderTtl}
		for _, x := range o.Lines {
			r.Lines = append(r.Lines, api.Line{Code: x.Code, Qty: x.Qty})
		}
		l = append(l, r)
	}
	return l
}

// setsOf answers an advice for each order of what is there of its goods; none for an order whose goods the store does not know, or has more of than an advice can tell.
func setsOf(orders []api.Order, s api.State) []api.Set {
	var sets []api.Set
	for _, o := range orders {
		a := api.Advice{Number: o.Number, Date: clockAt(s.Now).long, Lines: orderLines(o, s.Levels)}
		if set, err := edi.BuildAdvice(a, setControl(len(sets)+1)); err == nil {
			sets = append(sets, set)
		}
	}
	return sets
}

// orderLines answers what is there of an order's goods, each once.
func orderLines(o api.Order, levels []api.Level) []api.AdviceLine {
	var l []api.AdviceLine
	for _, x := range o.Lines {
		at, there := slices.BinarySearchFunc(levels, x.Code, func(v api.Level, code string) int { return strings.Compare(v.Code, code) })
		if there && !slices.Contains(l, adviceLine(levels[at])) {
			l = append(l, adviceLine(levels[at]))
		}
	}
	return l
}

// tradeLines answers what is there of all goods that an advice can tell, as far as it has room.
func tradeLines(levels []api.Level) []api.AdviceLine {
	var l []api.AdviceLine
	for _, v := range levels {
		if len(l) < api.MaxDocLines && isTrade(v.Code) && v.OnHand <= mostTold {
			l = append(l, adviceLine(v))
		}
	}
	return l
}

func adviceLine(v api.Level) api.AdviceLine {
	return api.AdviceLine{Code: v.Code, OnHand: v.OnHand, Free: v.OnHand - v.Held}
}

// advice answers an interchange of advices, with the next number.
func (d *Desk) advice(from, to string, test bool, now clock, sets []api.Set) api.Interchange {
	g := api.Group{Kind: "IB", From: from, To: to, Date: now.long, Time: now.time, Control: d.control, Sets: sets}
	return api.Interchange{From: from, To: to, Date: now.day, Time: now.time, Control: d.control, Test: test, Groups: []api.Group{g}}
}

// setControl answers the Control of the n-th set.
func setControl(n int) string {
	text := strconv.Itoa(n)
	return strings.Repeat("0", max(0, 4-len(text))) + text
}

// isTrade says whether a code is one of trade goods.
func isTrade(code string) bool {
	e, _ := gtin.Check(code)
	return e == api.OK && len(code) != pallet
}
