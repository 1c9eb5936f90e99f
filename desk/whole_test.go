package desk_test

import (
	"fmt"
	"slices"
	"strings"
	"testing"

	"larder/api"
	"larder/codec"
	"larder/desk"
	"larder/edi"
	"larder/frame"
	"larder/gtin"
	"larder/plan"
	"larder/sheet"
	"larder/stock"
)

// What the document promises of the whole, asked at the desks, where all layers are at work.

// TestW_Examples: the ten examples of the whole.
func TestW_Examples(t *testing.T) {
	a, b := goodA, goodB
	// 1.
	d := opened(t, single())
	do(t, d, "@1 restock r "+a+" 5\n@1 hold h 60 "+a+" 2\n@1 commit c h\nrun\n")
	wantDo(t, d, "goods\n", "4 goods 2\n"+a+" 3 0 3\n"+b+" 0 0 0\n")
	// 2.
	for seed := range 200 {
		d = opened(t, plain())
		do(t, d, "@1 restock r "+a+" 5\nrun\n@1 hold h 60 "+a+" 3\n@2 hold i 60 "+a+" 3\n")
		text := do(t, d, fmt.Sprintf("mix %d 3 300\nrun\ncheck\n", seed))
		if strings.Count(text, "OK now 60\n") != 1 || strings.Count(text, "E141\n") != 1 || !strings.Contains(text, "check OK 3 1\n") {
			t.Fatalf("mix %d: %s", seed, text)
		}
	}
	// 3 and 4.
	for crash, there := range map[string]bool{"crash keep 0": true, "crash": false, "crash torn 0 60": false} {
		d, picks := opened(t, plain()), 0
		restock := "@1 restock r " + a + " 5\nrun\n"
		for {
			d, picks = opened(t, plain()), picks+1
			text := do(t, d, restock+fmt.Sprintf("@1 hold h 60 %s 2\npick 1 %d\ncrash keep 0\nholds\n", a, picks))
			if strings.Contains(text, "2 @1 h lost\n") && strings.Contains(text, " holds 1\n") {
				break
			}
		}
		d = opened(t, plain())
		text := do(t, d, restock+fmt.Sprintf("@1 hold h 60 %s 2\npick 1 %d\n%s\nholds\n", a, picks, crash))
		if !strings.Contains(text, "2 @1 h lost\n") || strings.Contains(text, " holds 1\nh 60 ") != there {
			t.Errorf("%s: %s", crash, text)
		}
		text = do(t, d, "@1 tick t 9\n@1 hold h 60 "+a+" 2\nrun\nholds\n")
		deadline := map[bool]string{true: "60", false: "69"}[there]
		if !strings.Contains(text, " @1 h OK now "+deadline+"\n") || !strings.Contains(text, " holds 1\nh "+deadline+" ") {
			t.Errorf("%s, sent again: %s", crash, text)
		}
	}
	// 5.
	for seed := range 200 {
		d = opened(t, plain())
		do(t, d, "@1 restock r "+a+" 5 "+b+" 5\n@1 hold h 60 "+a+" 2 "+b+" 3\nrun\n@1 commit c h\n@2 read q "+a+" "+b+"\n")
		text := do(t, d, fmt.Sprintf("mix %d 3 300\nrun\n", seed))
		if before, behind := strings.Contains(text, "q OK "+a+" 5 2 "+b+" 5 3\n"), strings.Contains(text, "q OK "+a+" 3 0 "+b+" 2 0\n"); before == behind {
			t.Fatalf("mix %d: %s", seed, text)
		}
	}
	// 6.
	d = opened(t, single())
	do(t, d, "@1 restock r "+a+" 5\n@1 hold h 10 "+a+" 2\nrun\n")
	wantLines(t, d, "@1 tick t 10\n@1 commit c h\nrun\nholds\n", "3 @1 t OK now 10", "4 @1 c E142", "5 run *", "6 holds 0")
	// 7.
	d = opened(t, brief())
	wantLines(t, d, "@1 restock r "+a+" 5\nrun\n@1 restock s "+a+" 1\nrun\n@1 save v\nrun\n@1 restock s "+a+" 1\nrun\n", "0 @1 r OK", "1 run *", "2 @1 s E9", "3 run *", "4 @1 v OK", "5 run *", "6 @1 s OK", "7 run *")
	// 8.
	text := heads + "s,restock,\"" + a + "\",3,,,\r\n"
	whole, _ := sheet.Parse(text)
	for size := 1; size <= len(text); size++ {
		r := sheet.NewReader()
		var rows [][]string
		for piece := range slices.Chunk([]byte(text), size) {
			more, err := r.Feed(piece)
			if err != nil {
				t.Fatal(err)
			}
			rows = append(rows, more...)
		}
		if last, err := r.Close(); err != nil || !equal(append(rows, last...), whole) {
			t.Fatalf("pieces of %d: %v", size, rows)
		}
	}
	// 9.
	d = stocked(t, plain())
	good := one(t, "N-1", ordered(a, 4))
	ack, _ := taken(t, d, good)
	if x, _ := edi.ReadAck(ack.Groups[0].Sets[0]); !x.Sets[0].Ok {
		t.Errorf("%s", show(x))
	}
	ack, _ = taken(t, d, strings.Replace(strings.Replace(good, a, "12345671", 1), "N-1", "N-2", 1))
	if x, _ := edi.ReadAck(ack.Groups[0].Sets[0]); x.Sets[0].Ok || x.Sets[0].Segment != 1 || x.Sets[0].Element != 7 {
		t.Errorf("%s", show(x))
	}
	wantDo(t, d, "holds\n", "2 holds 1\nSHOP-N-1 604800 "+a+" 4\n")
	// 10.
	lines := func(l ...api.Line) []api.Line { return l }
	x, y, z := api.Line{Code: "a", Qty: 1}, api.Line{Code: "b", Qty: 1}, api.Line{Code: "c", Qty: 1}
	parcels, e, _ := plan.Ship(lines(x, y, z), []api.Depot{{Far: 1, Stock: lines(x)}, {Far: 9, Stock: lines(x, y, z)}, {Far: 5, Stock: lines(x, y, z)}, {Far: 2, Stock: lines(y, z)}})
	if e != api.OK || len(parcels) != 1 || parcels[0].Depot != 2 {
		t.Errorf("%s, %d", show(parcels), e)
	}
}

// TestW1_NotSoldTwice: at rest Held is what the live holds have, and OnHand what came in less what was written off and sold, by the story; behind power failures too.
func TestW1_NotSoldTwice(t *testing.T) {
	sold := 0
	for n, c := range shops() {
		for i := range 6 {
			d := opened(t, c)
			for _, x := range writerOf(c, 2010+100*n+i).things(25) {
				x.give(d)
				if _, err := d.Do("run\n"); err != nil {
					t.Fatal(err)
				}
				levels, held := map[string]int{}, map[string]int{}
				sold += flows(d.Story(), c, levels)
				s := d.State()
				for _, h := range s.Holds {
					for _, l := range h.Lines {
						held[l.Code] += l.Qty
					}
				}
				for _, v := range s.Levels {
					if v.Held < 0 || v.Held > v.OnHand || v.Held != held[v.Code] || v.OnHand != levels[v.Code] {
						t.Fatalf("%s: by the story %d, by the holds %d", show(v), levels[v.Code], held[v.Code])
					}
				}
			}
		}
	}
	if sold < 50 {
		t.Errorf("%d sold", sold)
	}
}

// flows adds up what came in, was written off and sold, by the story's effects in their order; and answers how much was sold.
func flows(s api.Story, c api.Config, levels map[string]int) int {
	sold := 0
	l, _ := stock.New(c.Codes, s.State.Room)
	for _, i := range s.Order {
		r := s.Ops[i].Request
		var goods []api.Line
		for _, h := range l.State().Holds {
			if h.Id == r.Hold {
				goods = h.Lines
			}
		}
		was := l.State().Lsn
		if l.Do(r); l.State().Lsn == was {
			continue
		}
		for _, x := range r.Lines {
			switch r.Kind {
			case api.KindRestock:
				levels[x.Code] += x.Qty
			case api.KindWriteoff:
				levels[x.Code] -= x.Qty
			}
		}
		for _, x := range goods {
			if r.Kind == api.KindCommit {
				levels[x.Code] -= x.Qty
				sold += x.Qty
			}
		}
	}
	return sold
}

// TestW3_AnsweredIsSafe: W3, W4, W8: the power fails behind every pick, once and again and again: what was answered is there, what is sent again has its first reply and no second effect.
func TestW3_AnsweredIsSafe(t *testing.T) {
	c := roomy(2, goodA, goodB)
	script := "@1 restock r " + goodA + " 9 " + goodB + " 9\n@2 restock s " + goodA + " 1\n@1 hold h 60 " + goodA + " 2 " + goodB + " 3\n@2 hold i 50 " + goodA + " 1\n@1 commit d h\n@2 extend e i 70\n@2 writeoff w " + goodB + " 1\n"
	requests := strings.Split(strings.TrimSuffix(script, "\n"), "\n")
	answered, lost := 0, 0
	for picks := 0; ; picks += 3 {
		for _, crash := range []string{"crash", "crash keep 0 1 2 3", "crash keep 1 torn 0 64"} {
			d := opened(t, c)
			text := do(t, d, fmt.Sprintf("%srun %d\n%s\n", script, picks, crash))
			for again := range 3 {
				s := d.State()
				if do(t, d, "crash keep 0\n"); !equal(d.State(), s) {
					t.Fatalf("crash %d behind a crash: %s, was %s", again, show(d.State()), show(s))
				}
			}
			for n, line := range requests {
				told := replyLine(text, n)
				if !strings.HasPrefix(told, "OK") {
					lost++
					continue
				}
				answered++
				was := d.State()
				now := replyLine(do(t, d, line+"\nrun\n"), -1)
				if now != told || !equal(d.State(), was) {
					t.Fatalf("%d picks, %s: %s was answered %s, and then %s", picks, crash, line, told, now)
				}
			}
			if text := do(t, d, "check\n"); !strings.Contains(text, "check OK") {
				t.Fatalf("%s", text)
			}
		}
		if !strings.Contains(do(t, opened(t, c), fmt.Sprintf("%srun %d\n", script, picks)), fmt.Sprintf("run %d\n", picks)) {
			break
		}
	}
	if answered < 100 || lost < 100 {
		t.Errorf("%d answered, %d not", answered, lost)
	}
}

// replyLine answers what stands behind the id in the reply to command n, or, if n is -1, to the first one.
func replyLine(text string, n int) string {
	for _, line := range strings.Split(text, "\n") {
		words := strings.SplitN(line, " ", 4)
		if len(words) == 4 && words[1][0] == '@' && (n < 0 || words[0] == fmt.Sprint(n)) {
			return words[3]
		}
	}
	return ""
}

// TestW5_Ends: fair picks of any mix bring every request to its end.
func TestW5_Ends(t *testing.T) {
	for _, handlers := range []int{1, 2, 5, 16} {
		c := roomy(handlers, goodA, goodB)
		for seed := range 20 {
			w := writerOf(c, 2050+seed)
			script := ""
			for n := range handlers {
				script += fmt.Sprintf("@%d %s\n", n+1, w.request())
			}
			text := do(t, opened(t, c), fmt.Sprintf("%smix %d %d 60000\nrun\n", script, seed, 2*handlers+3))
			if !strings.HasSuffix(text, fmt.Sprintf("\n%d run 0\n", handlers+1)) || strings.Count(text, "@") != handlers {
				t.Fatalf("mix %d with %d desks: %s", seed, handlers, text)
			}
		}
	}
}

// TestW6_AllOrNothing: a hold of several lines whose power fails at every pick is there with all of them or not at all.
func TestW6_AllOrNothing(t *testing.T) {
	seen := map[string]bool{}
	for picks := range 60 {
		for _, crash := range []string{"crash", "crash keep 0", "crash torn 0 64"} {
			d := stocked(t, plain())
			do(t, d, fmt.Sprintf("@1 hold h 60 %s 2 %s 3\npick 1 %d\n%s\n", goodA, goodB, picks, crash))
			s := d.State()
			switch {
			case equal(s.Levels, []api.Level{{Code: goodA, OnHand: 9}, {Code: goodB, OnHand: 5}}) && len(s.Holds) == 0:
				seen["none"] = true
			case equal(s.Levels, []api.Level{{Code: goodA, OnHand: 9, Held: 2}, {Code: goodB, OnHand: 5, Held: 3}}) && len(s.Holds) == 1 && len(s.Holds[0].Lines) == 2:
				seen["all"] = true
			default:
				t.Fatalf("%d picks, %s: %s", picks, crash, show(s))
			}
		}
	}
	if !seen["all"] || !seen["none"] {
		t.Errorf("%v", seen)
	}
}

// TestW7_Time: no hold lapses ahead of its deadline, and each is gone behind a tick to it, or later; a power failure changes nothing in that.
func TestW7_Time(t *testing.T) {
	for _, now := range []int{59, 60, 61, 1000000} {
		for _, crash := range []string{"", "crash\n"} {
			d := stocked(t, plain())
			do(t, d, "@1 hold h 60 "+goodA+" 2\nrun\n"+crash+fmt.Sprintf("@1 tick t %d\nrun\n", now)+crash)
			want(t, fmt.Sprintf("holds at %d", now), len(d.State().Holds), map[bool]int{true: 1, false: 0}[now < 60])
		}
	}
}

// TestW9_Room: however much is asked, no state weighs more than its slot holds, and a full log tells ErrBusy until a checkpoint is made.
func TestW9_Room(t *testing.T) {
	told := map[string]int{}
	for _, c := range []api.Config{brief(), {Codes: []string{goodA, goodB}, Stripes: 4, Handlers: 3, Sectors: 30, Slot: 8}, {Codes: []string{goodA, goodB}, Stripes: 4, Handlers: 3, Sectors: 19, Slot: 8}} {
		d := opened(t, c)
		for n := range 60 {
			text := do(t, d, fmt.Sprintf("@1 restock r%d %s 1\n@2 hold h%d 60 %s 1\nrun\n", n, goodA, n, goodA))
			for _, word := range strings.Fields(text) {
				told[word]++
			}
			if s := d.State(); stock.Weight(s) > s.Room || !stock.Sound(s) {
				t.Fatalf("%s", show(s))
			}
			if n%7 == 6 {
				do(t, d, "crash\n")
			}
			if n%5 == 4 {
				do(t, d, "@1 save s\nrun\n")
			}
		}
		if text := do(t, d, "check\n"); !strings.Contains(text, "check OK") {
			t.Errorf("%s", text)
		}
	}
	if told["OK"] < 20 || told["E9"] < 20 || told["E5"] < 20 {
		t.Errorf("%d OK, %d ErrBusy, %d ErrFull", told["OK"], told["E9"], told["E5"])
	}
}

// TestW10_OneForm: what a shop writes is read back, and printed as it stands; its requests, state and records too.
func TestW10_OneForm(t *testing.T) {
	for n, c := range shops() {
		d := opened(t, c)
		w := writerOf(c, 2100+n)
		for _, x := range w.things(40) {
			text, err := x.give(d)
			if err != nil {
				continue
			}
			switch x.kind {
			case "interchange", "number":
				for line := range strings.Lines(text) {
					parsed(t, strings.TrimSuffix(line, "\n"))
				}
			case "sheet":
				rows, err := sheet.Parse(text)
				if again, e := sheet.Print(rows); err != nil || e != nil || again != text {
					t.Errorf("%q: %q, %v, %v", text, again, err, e)
				}
			}
		}
		s := d.State()
		b, e := codec.PutState(s)
		back, f, _ := codec.State(b)
		if e != api.OK || f != api.OK || !equal(back, s) {
			t.Errorf("%d, %d, %s", e, f, show(s))
		}
		for i, o := range s.Done {
			b, _ := codec.PutRecord(api.Record{Lsn: i + 1, Request: o.Request})
			sealed, _ := frame.Seal(b)
			load, size, e, _ := frame.Unseal(sealed)
			r, f, _ := codec.Record(load)
			if again, _ := codec.PutRecord(r); e != api.OK || f != api.OK || size != len(sealed) || !equal(r.Request, o.Request) || !slices.Equal(again, b) {
				t.Errorf("%s", show(o))
			}
		}
	}
}

// TestW11_SumsTell: one wrong digit of a code is told of every order, at its place; one, two or three turned bits of a record's frame are.
func TestW11_SumsTell(t *testing.T) {
	for _, code := range []string{goodA, "036000291452", "6291041500213", "10036000291459"} {
		good := one(t, "N", ordered(code, 1))
		for i := range code {
			for digit := range 10 {
				wrong := code[:i] + fmt.Sprint(digit) + code[i+1:]
				if wrong == code {
					continue
				}
				if e, _ := gtin.Check(wrong); e != api.ErrCheck {
					t.Errorf("%s: %d", wrong, e)
				}
				d := opened(t, plain())
				ack, advices := taken(t, d, strings.Replace(good, code, wrong, 1))
				x, err := edi.ReadAck(ack.Groups[0].Sets[0])
				if err != nil || x.Sets[0].Ok || x.Sets[0].Segment != 1 || x.Sets[0].Element != 7 || len(advices) != 0 || len(d.Story().Ops) != 0 {
					t.Errorf("%s: %s, %v", wrong, show(x), err)
				}
			}
		}
	}
	load, _ := codec.PutRecord(api.Record{Lsn: 1, Request: api.Request{Id: "r", Kind: api.KindRestock, Lines: []api.Line{{Code: goodA, Qty: 5}}}})
	sealed, _ := frame.Seal(load)
	_, size, _, _ := frame.Unseal(sealed)
	first := size - len(load) - 4
	bits := 8 * (size - first)
	turn := func(bit int) { sealed[first+bit/8] ^= 1 << (bit % 8) }
	told := func(l ...int) {
		for _, bit := range l {
			turn(bit)
		}
		if _, _, e, _ := frame.Unseal(sealed); e == api.OK {
			t.Errorf("the bits %v", l)
		}
		for _, bit := range l {
			turn(bit)
		}
	}
	for i := range bits {
		told(i)
		for j := range i {
			told(i, j)
			if k := (i * j) % max(1, j); k != i && k != j && j > 0 {
				told(i, j, k)
			}
		}
	}
}

// TestW2_AsOneLedger: what any number of desks answer, in any mix, one ledger would have answered one behind the other: every reply of a run without power failures is that of the story's order.
func TestW2_AsOneLedger(t *testing.T) {
	for n, c := range shops() {
		for i := range 5 {
			d := opened(t, c)
			w := writerOf(c, 2020+100*n+i)
			var text strings.Builder
			for range 8 {
				script := ""
				for range 12 {
					script += fmt.Sprintf("@%d %s\n", 1+w.r.Intn(c.Handlers), w.request())
				}
				text.WriteString(do(t, d, fmt.Sprintf("%smix %d %d %d\nrun\n", script, w.r.Int63(), 2*c.Handlers+w.r.Intn(4), w.r.Intn(2000))))
			}
			s := d.Story()
			l, _ := stock.New(c.Codes, s.State.Room)
			for _, at := range s.Order {
				o := s.Ops[at]
				if reply := l.Do(o.Request); !equal(reply, o.Reply) {
					t.Fatalf("%s, one ledger: %s", show(o), show(reply))
				}
			}
			if !equal(l.State(), d.State()) || strings.Count(text.String(), "@") != 96 || len(s.Ops)+s.Busy != 96 {
				t.Fatalf("shop %d, run %d: %s", n, i, text.String())
			}
		}
	}
}

// TestW12_ScriptAlone: what is answered hangs on what was given alone: the same lines in one script, in many, in Run, and by another shop.
func TestW12_ScriptAlone(t *testing.T) {
	for n, c := range shops() {
		script := writerOf(c, 2120+n).script(60)
		wanted := do(t, opened(t, c), script)
		text, err := desk.Run(c, script)
		again, _ := desk.Run(c, strings.SplitAfter(script, "\n")...)
		if text != wanted || again != wanted || err != nil {
			t.Errorf("shop %d: %s\n%s\nwant %s", n, text, again, wanted)
		}
	}
}
