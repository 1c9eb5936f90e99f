package stock

import (
	"slices"
	"strings"

	"larder/api"
)

// Weight answers what a state weighs: so many bytes are always enough to write it down.
func Weight(s api.State) int {
	n := 64
	for _, v := range s.Levels {
		n += 21 + len(v.Code)
	}
	for _, h := range s.Holds {
		n += weightOfHold(h.Id, h.Lines)
	}
	for _, d := range s.Done {
		n += weightOfDone(d)
	}
	return n
}

func weightOfHold(id string, lines []api.Line) int {
	return 14 + len(id) + weightOfLines(lines)
}

func weightOfDone(d api.Done) int {
	return 11 + 40 + len(d.Request.Id) + len(d.Request.Hold) + weightOfLines(d.Request.Lines)
}

func weightOfLines(lines []api.Line) int {
	n := 0
	for _, x := range lines {
		n += 11 + len(x.Code)
	}
	return n
}

// Sound says whether a state is one that a ledger may have.
func Sound(s api.State) bool {
	return soundNumbers(s) && soundLevels(s.Levels) && soundHolds(s) && soundDone(s)
}

func soundNumbers(s api.State) bool {
	return s.Room >= 0 && s.Room <= api.MaxRoom && Weight(s) <= s.Room && s.Lsn >= 0 && s.Lsn <= api.MaxLsn && s.Now >= 0 && s.Now <= api.MaxNow
}

func soundLevels(levels []api.Level) bool {
	for _, v := range levels {
		if !isCode(v.Code) || v.Held < 0 || v.Held > v.OnHand {
			return false
		}
	}
	return len(levels) >= 1 && len(levels) <= api.MaxGoods && rising(levels, codeOfLevel)
}

// soundHolds asks for levels that are sound.
func soundHolds(s api.State) bool {
	if len(s.Holds) > api.MaxHolds || !rising(s.Holds, func(h api.Held) string { return h.Id }) {
		return false
	}
	// What of each level no hold has been found for yet: counted down, since the holds of a state that is not sound may come to more than an int holds.
	left := make([]int, len(s.Levels))
	for i, v := range s.Levels {
		left[i] = v.Held
	}
	for _, h := range s.Holds {
		if !isId(h.Id) || h.Deadline <= s.Now || h.Deadline > s.Now+api.MaxTtl || !countOff(left, s.Levels, h.Lines) {
			return false
		}
	}
	for _, n := range left {
		if n != 0 {
			return false
		}
	}
	return true
}

// countOff takes a hold's lines off what is left of the levels, and says whether they are a hold's lines and so many are left.
func countOff(left []int, levels []api.Level, lines []api.Line) bool {
	if len(lines) < 1 || len(lines) > api.MaxLines || !rising(lines, codeOfLine) {
		return false
	}
	for _, x := range lines {
		i, there := placeOf(levels, x.Code)
		if !there || x.Qty < 1 || x.Qty > left[i] {
			return false
		}
		left[i] -= x.Qty
	}
	return true
}

// soundDone asks for levels that are sound.
func soundDone(s api.State) bool {
	if len(s.Done) > api.MaxDone || len(s.Done) > s.Lsn || !rising(s.Done, func(d api.Done) string { return d.Request.Id }) {
		return false
	}
	for _, d := range s.Done {
		if !soundRequest(s.Levels, d.Request) || d.At < 0 || d.At > s.Now || d.At <= s.Now-api.KeptFor {
			return false
		}
		if d.Request.Kind == api.KindTick && d.At < d.Request.Now {
			return false
		}
	}
	return true
}

// soundRequest says whether a request may have had an effect on a ledger of these levels.
func soundRequest(levels []api.Level, r api.Request) bool {
	n, e, _ := Normal(r)
	if e != api.OK || !same(n, r) || !Changes(r.Kind) {
		return false
	}
	for _, x := range r.Lines {
		if _, there := placeOf(levels, x.Code); !there {
			return false
		}
	}
	return true
}

func codeOfLevel(v api.Level) string { return v.Code }

func codeOfLine(x api.Line) string { return x.Code }

// rising says whether each entry's name is above that of the one ahead of it.
func rising[T any](l []T, name func(T) string) bool {
	for i := 1; i < len(l); i++ {
		if name(l[i]) <= name(l[i-1]) {
			return false
		}
	}
	return true
}

// placeOf answers a code's place in levels that are in order, and whether it is there.
func placeOf(levels []api.Level, code string) (int, bool) {
	return slices.BinarySearchFunc(levels, code, func(v api.Level, code string) int { return strings.Compare(v.Code, code) })
}

// sumOf answers the Qty of a code in the lines of a Normal.
func sumOf(lines []api.Line, code string) int {
	i, _ := slices.BinarySearchFunc(lines, code, func(x api.Line, code string) int { return strings.Compare(x.Code, code) })
	return lines[i].Qty
}

// copied answers a list's entries in memory of their own; no list for none, as in a request that has no lines.
func copied[T any](l []T) []T {
	if len(l) == 0 {
		return nil
	}
	c := make([]T, len(l))
	copy(c, l)
	return c
}

func copiedDone(d api.Done) api.Done {
	d.Request.Lines = copied(d.Request.Lines)
	return d
}

// inOrder lays the names of a table into a list that is long enough, and answers them in order.
func inOrder[V any](list []string, table map[string]V) []string {
	list = list[:0]
	for name := range table {
		list = append(list, name)
	}
	slices.Sort(list)
	return list
}
