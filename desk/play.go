package desk

import (
	"maps"
	"slices"
	"strconv"
	"strings"

	"larder/api"
	"larder/lin"
	"larder/sched"
)

// answer is the lines that a script is told.
type answer struct{ strings.Builder }

func (a *answer) line(words ...string) {
	a.WriteString(strings.Join(words, " "))
	a.WriteByte('\n')
}

// reply tells a reply to the command that brought the request, if one did.
func (a *answer) reply(h int, x asking, r api.Reply) {
	if x.command == nobody {
		return
	}
	words := []string{strconv.Itoa(x.command), deskWord(h + 1), r.Id, errorWord(r.Err)}
	if r.Line > 0 {
		words = append(words, "line", strconv.Itoa(r.Line))
	}
	if r.Now != 0 {
		words = append(words, "now", strconv.Itoa(r.Now))
	}
	for _, v := range r.Levels {
		words = append(words, v.Code, strconv.Itoa(v.OnHand), strconv.Itoa(v.Held))
	}
	a.line(words...)
}

func deskWord(n int) string { return "@" + strconv.Itoa(n) }

// errorWord answers how an error is told, here and in sheets.
func errorWord(e api.Errno) string {
	if e == api.OK {
		return "OK"
	}
	return "E" + strconv.Itoa(int(e))
}

// own tells the line of the command that is played.
func (d *Desk) own(a *answer, words ...string) {
	a.line(append([]string{strconv.Itoa(d.number)}, words...)...)
}

func (d *Desk) playRequest(c command, a *answer) {
	x := asking{c.request, d.number, nobody}
	h := c.desk - 1
	switch {
	case h >= len(d.queues):
		a.reply(h, x, api.Reply{Id: c.request.Id, Err: api.ErrHandler})
	case len(d.queues[h].waiting) >= api.MaxWaiting:
		a.reply(h, x, api.Reply{Id: c.request.Id, Err: api.ErrFull})
	default:
		d.queues[h].waiting = append(d.queues[h].waiting, x)
	}
}

func (d *Desk) playRun(c command, a *answer) {
	made := d.run(min(c.picks, api.MaxRun), a.reply)
	d.own(a, "run", strconv.Itoa(made))
}

// playPick stops at a pick that does nothing: those behind it would do nothing either.
func (d *Desk) playPick(c command, a *answer) {
	if c.desk < 1 || c.desk > len(d.queues) {
		d.own(a, "pick", errorWord(api.ErrHandler))
		return
	}
	did := 0
	for did < min(c.picks, api.MaxRun) && d.pick(c.desk-1, a.reply) {
		did++
	}
	d.own(a, "pick", strconv.Itoa(did))
}

func (d *Desk) playMix(c command, a *answer) {
	made, did := 0, 0
	for h := range sched.Mixed(uint64(c.seed), len(d.queues), c.fair) {
		if made >= min(c.picks, api.MaxRun) {
			break
		}
		made++
		if d.pick(h, a.reply) {
			did++
		}
	}
	d.own(a, "mix", strconv.Itoa(did))
}

func (d *Desk) playCrash(c command, a *answer) {
	lost := d.unanswered()
	if e := d.till.Crash(c.crash); e != api.OK {
		d.own(a, "crash", errorWord(e))
		return
	}
	clear(d.queues)
	for _, number := range slices.Sorted(maps.Keys(lost)) {
		a.line(strconv.Itoa(number), deskWord(lost[number].desk), lost[number].id, "lost")
	}
	d.own(a, "crash", "OK")
}

// open is a request that is not answered so far.
type open struct {
	desk int
	id   string
}

// unanswered answers the requests of commands that are at work or wait, by the commands' numbers.
func (d *Desk) unanswered() map[int]open {
	list := make(map[int]open)
	for h := range d.queues {
		q := &d.queues[h]
		all := q.waiting
		if !d.isIdle(h) {
			all = append([]asking{q.work}, all...)
		}
		for _, x := range all {
			if x.command != nobody {
				list[x.command] = open{h + 1, x.request.Id}
			}
		}
	}
	return list
}

func (d *Desk) playGoods(_ command, a *answer) {
	levels := d.till.State().Levels
	d.own(a, "goods", strconv.Itoa(len(levels)))
	for _, v := range levels {
		a.line(v.Code, strconv.Itoa(v.OnHand), strconv.Itoa(v.Held), strconv.Itoa(v.OnHand-v.Held))
	}
}

func (d *Desk) playHolds(_ command, a *answer) {
	holds := d.till.State().Holds
	d.own(a, "holds", strconv.Itoa(len(holds)))
	for _, h := range holds {
		words := []string{h.Id, strconv.Itoa(h.Deadline)}
		for _, x := range h.Lines {
			words = append(words, x.Code, strconv.Itoa(x.Qty))
		}
		a.line(words...)
	}
}

func (d *Desk) playCheck(_ command, a *answer) {
	s := d.till.Story()
	d.own(a, "check", verdict(s, d.till.Start()), strconv.Itoa(len(s.Ops)), strconv.Itoa(s.Lives))
}

// verdict says whether one ledger could have answered so.
func verdict(s api.Story, start api.State) string {
	if good, _ := lin.Holds(s.Ops, s.Order, start); good {
		return "OK"
	}
	return "BAD"
}
