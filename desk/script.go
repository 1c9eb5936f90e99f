package desk

import (
	"strconv"
	"strings"

	"larder/api"
	"larder/cal"
)

// readScript answers the commands of a script, or its first fault.
func readScript(script string) ([]command, error) {
	if len(script) > api.MaxScript {
		ahead := script[:api.MaxScript]
		column := len(ahead) - (strings.LastIndexByte(ahead, '\n') + 1)
		return nil, &Fault{Line: strings.Count(ahead, "\n") + 1, Column: column, Err: ErrLong}
	}
	table := rules()
	var list []command
	for i, text := range strings.Split(script, "\n") {
		c, says, err := readLine(text, table)
		if err != nil {
			return nil, onLine(err, i+1)
		}
		if says {
			list = append(list, c)
		}
	}
	return list, nil
}

// readLine answers the command of a line, and whether there is one; or its first fault.
func readLine(text string, table map[string]rule) (command, bool, error) {
	for i := range len(text) {
		if text[i] < ' ' || text[i] > '~' {
			return command{}, false, &Fault{Column: i, Err: ErrByte}
		}
	}
	r := &reader{words: wordsOf(text), end: len(text)}
	if r.isOver() || strings.HasPrefix(r.peek(), "#") {
		return command{}, false, nil
	}
	if len(r.words) > api.MaxWords {
		return command{}, false, &Fault{Column: r.words[api.MaxWords].column, Err: ErrWords}
	}
	c := r.command(table)
	return c, true, r.fault
}

// word is a piece of a line between blanks.
type word struct {
	text   string
	column int
}

func wordsOf(text string) []word {
	var l []word
	for column := 0; column < len(text); column++ {
		if text[column] == ' ' {
			continue
		}
		piece, _, _ := strings.Cut(text[column:], " ")
		l = append(l, word{piece, column})
		column += len(piece)
	}
	return l
}

// reader reads a line's words from the left, so that the fault that it finds first is the one most to the left: that one stays.
type reader struct {
	words []word
	at    int
	end   int // the column behind the line's last byte
	fault error
}

func (r *reader) fail(column int, err error) {
	if r.fault == nil {
		r.fault = &Fault{Column: column, Err: err}
	}
}

func (r *reader) isOver() bool { return r.at >= len(r.words) }

// column answers that of the next word; the line's end, if there is none.
func (r *reader) column() int {
	if r.isOver() {
		return r.end
	}
	return r.words[r.at].column
}

// peek answers the next word, and leaves it there; "", if there is none.
func (r *reader) peek() string {
	if r.isOver() {
		return ""
	}
	return r.words[r.at].text
}

// word takes the next word, which must be there.
func (r *reader) word() string {
	if r.isOver() {
		r.fail(r.end, ErrWords)
		return ""
	}
	r.at++
	return r.words[r.at-1].text
}

// value takes the next word, which must be there and be a number in the way of a function.
func (r *reader) value(of func(string) (int, bool)) int {
	column := r.column()
	n, ok := of(r.word())
	if !ok {
		r.fail(column, ErrNumber)
	}
	return n
}

func (r *reader) number() int { return r.value(numberOf) }

// lines takes a code, or a code and a number, once or more.
func (r *reader) lines(counted bool) []api.Line {
	var l []api.Line
	for len(l) == 0 || !r.isOver() {
		x := api.Line{Code: r.word()}
		if counted {
			x.Qty = r.number()
		}
		l = append(l, x)
	}
	return l
}

// places takes a number once or more, up to the word torn.
func (r *reader) places() []int {
	var l []int
	for len(l) == 0 || !r.isOver() && r.peek() != "torn" {
		l = append(l, r.number())
	}
	return l
}

// numberOf reads a number that is written in its one form.
func numberOf(text string) (int, bool) {
	n, err := strconv.Atoi(text)
	return n, err == nil && strconv.Itoa(n) == text
}

// clockOf reads what a clock is set to: a number, or an instant's text.
func clockOf(text string) (int, bool) {
	if !strings.Contains(text, "T") {
		return numberOf(text)
	}
	second, e, _ := cal.ParseInstant(text)
	return second - api.Epoch, e == api.OK
}
