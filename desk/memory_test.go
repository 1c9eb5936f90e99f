package desk_test

import (
	"reflect"
	"slices"
	"strings"
	"testing"

	"larder/api"
	"larder/desk"
)

// roomed answers a list with spare room that is filled with a value.
func roomed[T any](l []T, rest T) []T {
	wide := append(append(make([]T, 0, len(l)+3), l...), rest, rest, rest)
	return wide[:len(l)]
}

// spared says whether the spare room of such a list is as it was.
func spared[T comparable](l []T, rest T) bool {
	return !slices.ContainsFunc(l[:len(l)+3][len(l):], func(x T) bool { return x != rest })
}

// TestR4_HandedIn: what is handed in is not changed, nor its spare room, and may be written into behind the call.
func TestR4_HandedIn(t *testing.T) {
	c, given := plain(), plain()
	given.Codes = roomed(c.Codes, "spare")
	d := opened(t, given)
	if !slices.Equal(given.Codes, c.Codes) || !spared(given.Codes, "spare") {
		t.Error("Open has changed the codes")
	}
	clear(given.Codes)
	wantDo(t, d, "goods\ncrash\ngoods\n", "0 goods 2\n"+goodA+" 0 0 0\n"+goodB+" 0 0 0\n1 crash OK\n2 goods 2\n"+goodA+" 0 0 0\n"+goodB+" 0 0 0\n")

	given.Codes = roomed(c.Codes, "spare")
	scripts := []string{"check\n", "goods\n", "x", "y"}
	l := roomed(scripts, "spare")
	text, _ := desk.Run(given, l...)
	if !slices.Equal(l, scripts) || !spared(l, "spare") || !slices.Equal(given.Codes, c.Codes) || !spared(given.Codes, "spare") {
		t.Error("Run has changed what it was given")
	}
	if wanted, _ := desk.Run(c, scripts...); text != wanted {
		t.Errorf("%s, want %s", text, wanted)
	}
}

// stretch is a piece of memory.
type stretch struct {
	from, to uintptr
	path     string
}

// stretches answers the memory of all lists in a thing, spare room and all.
func stretches(path string, v reflect.Value) []stretch {
	var l []stretch
	switch v.Kind() {
	case reflect.Struct:
		for i := range v.NumField() {
			l = append(l, stretches(path+"."+v.Type().Field(i).Name, v.Field(i))...)
		}
	case reflect.Slice:
		if size := uintptr(v.Cap()) * v.Type().Elem().Size(); size > 0 {
			l = append(l, stretch{v.Pointer(), v.Pointer() + size, path})
		}
		for i := range v.Len() {
			l = append(l, stretches(path+"[]", v.Index(i))...)
		}
	}
	return l
}

// busy answers a shop with something of everything: holds, remembered requests, levels read, ops of several lives, requests at work and waiting.
func busy(t *testing.T) *desk.Desk {
	t.Helper()
	d := stocked(t, roomy(2, goodA, goodB))
	taken(t, d, one(t, "N", ordered(goodA, 1), ordered(goodB, 1)))
	filled(t, d, heads+"q,read,"+goodA+",,,,\r\nq,read,"+goodB+",,,,\r\ni,hold,"+goodA+",1,,60,\r\n")
	do(t, d, "@1 read r "+goodA+" "+goodB+"\nrun\n@1 restock s "+goodA+" 1 "+goodB+" 1\n@2 read u "+goodA+"\npick 1 14\ncrash\n@1 hold j 60 "+goodA+" 1\n@1 read v "+goodB+"\n@2 read w "+goodB+"\npick 1 9\n")
	return d
}

// TestR4_Apart: no two lists of an answer, or of two answers, share memory.
func TestR4_Apart(t *testing.T) {
	d := busy(t)
	var l []stretch
	for _, round := range []string{"first ", "second "} {
		l = append(l, stretches(round+"state", reflect.ValueOf(d.State()))...)
		l = append(l, stretches(round+"story", reflect.ValueOf(d.Story()))...)
	}
	slices.SortFunc(l, func(a, b stretch) int { return int(a.from) - int(b.from) })
	for i := 1; i < len(l); i++ {
		if l[i].from < l[i-1].to {
			t.Errorf("%s and %s share memory", l[i-1].path, l[i].path)
		}
	}
}

// scribble writes into all lists of a thing, and behind them.
func scribble(v reflect.Value) {
	switch v.Kind() {
	case reflect.Struct:
		for i := range v.NumField() {
			scribble(v.Field(i))
		}
	case reflect.Slice:
		for i := range v.Len() {
			scribble(v.Index(i))
		}
		all := v.Slice(0, v.Cap())
		for i := range all.Len() {
			all.Index(i).SetZero()
		}
	}
}

// TestR4_AnswersAreNew: what is written into answers, and into faults, shows nowhere else.
func TestR4_AnswersAreNew(t *testing.T) {
	d, other := busy(t), busy(t)
	was := looksOf(d)
	scribble(reflect.ValueOf(d.State()))
	scribble(reflect.ValueOf(d.Story()))
	wantSame(t, "answers that are written into", d, was)
	_, err := d.Do("run x")
	f := err.(*desk.Fault)
	f.Line, f.Column, f.Err = 77, 77, nil
	wantFault(t, d, "run x", desk.ErrNumber, 1, 4)
	script := "run\ngoods\nholds\ncheck\ncrash\ngoods\ncheck\n"
	wantDo(t, d, script, do(t, other, script))
	wantSame(t, "behind that", d, looksOf(other))
}

// TestR5_LookingChangesNothing: what is asked of a shop hangs on what was done, not on how often it was looked at, nor on things that were refused.
func TestR5_LookingChangesNothing(t *testing.T) {
	d, other := busy(t), busy(t)
	for _, step := range strings.SplitAfter("pick 1 3\nrun 7\n@2 hold k 60 "+goodA+" 2\nmix 4 3 40\ncrash keep 0 torn 1 60\n@1 read x "+goodA+"\nrun\ngoods\ncheck\n", "\n") {
		for range 3 {
			d.State()
			d.Story()
			d.Do("goods\nx")
			d.Take("ISA")
			d.Fill("x")
			d.Advice("x")
		}
		wantDo(t, d, step, do(t, other, step))
		wantSame(t, "one that was looked at", d, looksOf(other))
	}
}

// TestR1_AnyText: no call falls, whatever it is given.
func TestR1_AnyText(t *testing.T) {
	c := plain()
	w := writerOf(c, 1801)
	for range 20 {
		d := opened(t, c)
		for range 60 {
			b := make([]byte, w.r.Intn(200))
			for i := range b {
				b[i] = pick(w.r, byte(w.r.Intn(256)), ' ', '\n', '@', '1', ',')
			}
			for _, text := range []string{string(b), w.spoilt(), w.interchange(), w.sheet(5)} {
				d.Do(text)
				d.Take(text)
				d.Fill(text)
				d.Advice(text)
			}
		}
		if text := do(t, d, "check\n"); !strings.Contains(text, "check OK") {
			t.Errorf("%s", text)
		}
	}
}

// TestR2_ErrorsAlone: with an error the answer is empty.
func TestR2_ErrorsAlone(t *testing.T) {
	for n, c := range []api.Config{plain(), single()} {
		d := opened(t, c)
		for _, x := range writerOf(c, 1802+n).things(200) {
			if text, err := x.give(d); err != nil && text != "" {
				t.Errorf("%v: %q, %v", x, text, err)
			}
		}
	}
}
