package desk

import (
	"strings"

	"larder/api"
)

// kinds are the words of requests, by their Kind.
var kinds = [...]string{
	api.KindRestock:  "restock",
	api.KindWriteoff: "writeoff",
	api.KindHold:     "hold",
	api.KindCommit:   "commit",
	api.KindRelease:  "release",
	api.KindExtend:   "extend",
	api.KindRead:     "read",
	api.KindTick:     "tick",
	api.KindSave:     "save",
}

// kindOf answers the Kind of a word; 0, if it is no request's.
func kindOf(text string) int {
	for kind, word := range kinds {
		if word == text {
			return kind
		}
	}
	return 0
}

// command is one that was read.
type command struct {
	play    func(*Desk, command, *answer)
	desk    int
	request api.Request
	seed    int
	fair    int
	picks   int
	crash   api.Crash
}

// rule is how a command's words are read, and how it is played.
type rule struct {
	atDesk bool // it stands behind an @ and a desk
	read   func(*reader, *command)
	play   func(*Desk, command, *answer)
}

// rules answers the rules of all commands, by their words.
func rules() map[string]rule {
	table := map[string]rule{
		"run":   {read: readRun, play: (*Desk).playRun},
		"pick":  {read: readPick, play: (*Desk).playPick},
		"mix":   {read: readMix, play: (*Desk).playMix},
		"crash": {read: readCrash, play: (*Desk).playCrash},
		"goods": {read: readNothing, play: (*Desk).playGoods},
		"holds": {read: readNothing, play: (*Desk).playHolds},
		"check": {read: readNothing, play: (*Desk).playCheck},
	}
	for kind := api.KindRestock; kind <= api.KindSave; kind++ {
		table[kinds[kind]] = rule{atDesk: true, read: readRequest, play: (*Desk).playRequest}
	}
	return table
}

// command reads a whole line of words.
func (r *reader) command(table map[string]rule) command {
	var c command
	atDesk := strings.HasPrefix(r.peek(), "@")
	if atDesk {
		c.desk = r.desk()
	}
	found, known := table[r.peek()]
	if !known || found.atDesk != atDesk {
		r.fail(r.column(), ErrCommand)
		return c
	}
	c.play = found.play
	c.request.Kind = kindOf(r.word())
	found.read(r, &c)
	if !r.isOver() {
		r.fail(r.column(), ErrWords)
	}
	return c
}

// desk takes the word of a desk, which need not be there in the shop.
func (r *reader) desk() int {
	column := r.column()
	n, ok := numberOf(strings.TrimPrefix(r.word(), "@"))
	if !ok || n < 1 {
		r.fail(column, ErrDesk)
	}
	return n
}

// readRequest goes from the longer forms to the shorter, where one ends as the other does.
func readRequest(r *reader, c *command) {
	c.request.Id = r.word()
	switch c.request.Kind {
	case api.KindHold:
		c.request.Ttl = r.number()
		fallthrough
	case api.KindRestock, api.KindWriteoff:
		c.request.Lines = r.lines(true)
	case api.KindRead:
		c.request.Lines = r.lines(false)
	case api.KindExtend:
		c.request.Hold, c.request.Ttl = r.word(), r.number()
	case api.KindCommit, api.KindRelease:
		c.request.Hold = r.word()
	case api.KindTick:
		c.request.Now = r.value(clockOf)
	}
}

func readRun(r *reader, c *command) {
	c.picks = api.MaxRun
	if !r.isOver() {
		c.picks = r.number()
	}
}

func readPick(r *reader, c *command) { c.desk, c.picks = r.number(), r.number() }

func readMix(r *reader, c *command) { c.seed, c.fair, c.picks = r.number(), r.number(), r.number() }

// readCrash goes from what is kept on to what is torn, which may stand alone too.
func readCrash(r *reader, c *command) {
	c.crash.Torn = -1
	if r.isOver() {
		return
	}
	column := r.column()
	switch r.word() {
	case "keep":
		c.crash.Keep = r.places()
		if r.isOver() {
			break
		}
		r.word() // places stop at nothing but torn
		fallthrough
	case "torn":
		c.crash.Torn, c.crash.Bytes = r.number(), r.number()
	default:
		r.fail(column, ErrCommand)
	}
}

func readNothing(*reader, *command) {}
