package desk_test

import (
	"errors"
	"fmt"
	"math/rand"
	"strings"
	"testing"

	"larder/api"
	"larder/desk"
)

// TestFault: what a Fault tells, of a nil one too; all variables are unlike.
func TestFault(t *testing.T) {
	other := errors.New("x")
	for _, x := range []struct {
		f    *desk.Fault
		text string
		err  error
	}{
		{nil, "", nil}, {&desk.Fault{}, "line 0 column 0: ", nil}, {&desk.Fault{Line: -3, Column: 12}, "line -3 column 12: ", nil},
		{&desk.Fault{Line: 7, Column: -1, Err: desk.ErrByte}, "line 7 column -1: " + desk.ErrByte.Error(), desk.ErrByte},
		{&desk.Fault{Line: greatest, Column: least, Err: other}, "line 9223372036854775807 column -9223372036854775808: x", other},
	} {
		want(t, "Error", x.f.Error(), x.text)
		want(t, "Unwrap", x.f.Unwrap(), x.err)
	}
	texts := map[string]bool{}
	for i, v := range variables() {
		texts[v.Error()] = true
		for j, u := range variables() {
			want(t, "errors.Is of two variables", errors.Is(v, u), i == j)
		}
	}
	want(t, "texts that are unlike", len(texts), 6)
}

// TestP18_2_Long: a script of MaxScript bytes, and of one more, whatever stands ahead of it.
func TestP18_2_Long(t *testing.T) {
	d := opened(t, plain())
	fill := func(text string, size int) string { return text + strings.Repeat("#", size-len(text)) }
	wantDo(t, d, fill("", api.MaxScript), "")
	wantDo(t, d, fill("# a\n\n", api.MaxScript), "")
	wantDo(t, d, strings.Repeat("\n", api.MaxScript), "")
	wantFault(t, d, fill("", api.MaxScript+1), desk.ErrLong, 1, 65536)
	wantFault(t, d, fill("\n", api.MaxScript+1), desk.ErrLong, 2, 65535)
	wantFault(t, d, strings.Repeat("\n", api.MaxScript+1), desk.ErrLong, 65537, 0)
	wantFault(t, d, strings.Repeat("#", api.MaxScript)+"\n", desk.ErrLong, 1, 65536)
	wantFault(t, d, strings.Repeat("#", api.MaxScript-1)+"\n\n", desk.ErrLong, 2, 0)
	wantFault(t, d, fill("goods\nx\n\t", 2*api.MaxScript), desk.ErrLong, 3, 65528)
	for _, ahead := range []string{"x\n", "\t", "@0 x", "@1", "run x", "goods 1\n", strings.Repeat("w ", 90)} {
		column := 65536
		if strings.HasSuffix(ahead, "\n") {
			column -= len(ahead)
		}
		wantFault(t, d, fill(ahead, api.MaxScript+1), desk.ErrLong, 1+strings.Count(ahead, "\n"), column)
	}
	wantFault(t, d, fill("#\n#\n", api.MaxScript-1)+"\x00", desk.ErrByte, 3, 65531)
	wantDo(t, d, "check", "0 check OK 0 1\n")
}

// TestP18_2_Bytes: every byte in a command, in lines that say nothing, and in the last line without its byte 10.
func TestP18_2_Bytes(t *testing.T) {
	d := opened(t, plain())
	for b := range 256 {
		c := string([]byte{byte(b)})
		isWrong := b != 10 && (b < 32 || b > 126)
		for _, x := range []struct {
			script       string
			line, column int
		}{
			{"# " + c + "\n", 1, 2}, {"#" + c, 1, 1}, {"# x\n #" + c + "#\ngoods\n", 2, 2}, {"#\n\n" + c + " # x", 3, 0}, {"# \xff"[:2] + c + "\x00", 1, 2},
			{"@1 read r " + c + c + "\n", 1, 10}, {"@" + c + " read r", 1, 1}, {"\n\ngoods" + c, 3, 5}, {" " + c, 1, 1}, {c, 1, 0}, {c + "\n", 1, 0}, {"goods\n  " + c + "  \n", 2, 2}, {"run" + c + " x y", 1, 3},
		} {
			_, err := d.Do(x.script)
			if f := told(err); isWrong && f != (fault{desk.ErrByte, x.line, x.column}) {
				t.Errorf("Do(%q): %v, want ErrByte, %d, %d", x.script, f, x.line, x.column)
			} else if f != faultOf(x.script) {
				t.Errorf("Do(%q): %v, want %v", x.script, f, faultOf(x.script))
			}
		}
	}
}

// TestP18_2_Words: a line of MaxWords words and of one more, which counts ahead of all but wrong bytes.
func TestP18_2_Words(t *testing.T) {
	d := opened(t, plain())
	words := func(first string, n int) string {
		return first + strings.Repeat(" w", n-len(strings.Fields(first)))
	}
	wantDo(t, d, words("@1 read r", 80)+"\nrun\n", "0 @1 r E122\n1 run 5\n")
	for _, first := range []string{"@1 read r", "@x", "@1 x", "x", "run x", "goods", "crash now", "@0 hold", "crash keep", "@1 restock r a b"} {
		text := words(first, 81)
		wantFault(t, d, text, desk.ErrWords, 1, len(words(first, 80))+1)
		wantFault(t, d, "  "+text+" w w", desk.ErrWords, 1, len(words(first, 80))+3)
		wantFault(t, d, text+" \x7f", desk.ErrByte, 1, len(text)+1)
	}
	wantDo(t, d, words("# 1 2", 200)+"\n"+words(" #x", 300), "")
	wantFault(t, d, words("run", 80), desk.ErrNumber, 1, 4)
	wantFault(t, d, words("run 5", 80), desk.ErrWords, 1, 6)
	wantFault(t, d, words("@1 commit c h", 80), desk.ErrWords, 1, 14)
}

// TestP18_2_Marked: each fault at its place, which a | marks.
func TestP18_2_Marked(t *testing.T) {
	d := opened(t, plain())
	was := looksOf(d)
	for err, list := range map[error][]string{
		desk.ErrDesk: {
			"|@", "|@ 1 read r a", "|@0", "|@0 x", "|@-1 read r a", "|@-0", "|@01 read r a", "|@00", "|@x read r a", "|@1x read r a", "|@1.0 save s", "|@+1 save s", "|@@1 save s", "|@-9223372036854775808 save s",
			"|@9223372036854775808 save s", "|@9223372036854775808", "  |@ goods", "|@# save s", "|@1@2 save s", "|@0 hold h x", "|@99999999999999999999 save s", "|@run", "|@2026-01-01T00Z save s",
		},
		desk.ErrCommand: {
			"|x", "  |x", "|RUN", "|Run", "|runs", "|ru", "|r", "|1", "|-", "|restock r a 1", "|hold h 5 a 1", "|read r a", "|tick t 1", "|save s", "|commit c h", "|keep 1", "|torn 1 2", "|x y z", "|goods,", "|goods#", "|x #",
			"@1|", "@1 |", "@1   |", " @1|", "@9223372036854775807|", "@7 |", "@1 |x", "@1 |run", "@1 |run 5", "@1 |pick 1 1", "@1 |mix 1 3 5", "@1 |crash", "@1 |goods", "@1 |holds", "@1 |check", "@1 |@1 save s", "@1 |#", "@1 |Hold h", "@1 |hol",
			"@1 |holdh", "@1 |x x", "@1 |5", "@1  |keep 1", "crash |x", "crash |1", "crash |-1 2", "crash |Keep 1", "crash |now keep 1", "crash |@1", "crash   |crash", "crash |#", "crash |keeps 1", "crash |kee", "crash |torn, 1 2",
		},
		desk.ErrWords: {
			"@1 restock|", "@1 restock r|", "@1 restock r a|", "@1 restock r a 1 b|", "@1 restock  r |", "@1 writeoff|", "@1 writeoff r|", "@1 writeoff r a|", "@1 writeoff r a 1 b|",
			"@1 hold|", "@1 hold h|", "@1 hold h 5|", "@1 hold h 5 a|", "@1 hold h 5 a 1 b|", "@1 hold h  |", "@1 commit|", "@1 commit c|", "@1 commit c h |x", "@1 commit c h  |5 6", "@1 release|", "@1 release r|", "@1 release r h |x",
			"@1 extend|", "@1 extend e|", "@1 extend e h|", "@1 extend e h 5 |x", "@1 extend e h 5 |6 7", "@1 read|", "@1 read r|", "@1 read r  |", "@1 tick|", "@1 tick t|", "@1 tick t 5 |x", "@1 tick t 1970-01-01T00Z |5",
			"@1 save|", "@1 save s |x", "@1 save s |#", "@9 save|", "run 5 |x", "run 5 |6 7", "pick|", "pick 1|", "pick 1 2 |x", "pick 9  |", "mix|", "mix 1|", "mix 1 3|", "mix 1 3 9 |x", "mix 1 3 9 |9 9",
			"crash keep|", "crash keep  |", "crash torn|", "crash torn 1|", "crash torn 1 2 |3", "crash torn 1 2 |keep 3", "crash torn 1 2 |torn 3 4", "crash torn 1 2 |x", "crash keep 1 torn|", "crash keep 1 2 torn 3|", "crash keep 1 torn 2 3 |x",
			"crash keep 1 torn 2 3 |4", "crash keep 1 torn 2 3 |keep 4", "crash keep 1 torn 2 3 |torn 4 5", "goods |x", "goods |5", "goods |@1", "goods  |# x", "holds |x", "holds |goods", "check |x", "  check  |check  ",
		},
		desk.ErrNumber: {
			"@1 restock r a |x", "@1 restock r a |b 1", "@1 restock r a 1 b |x", "@1 restock r a 1 b |x c", "@1 restock r a |01", "@1 writeoff w a |1.5", "@1 writeoff w a 1 b |-", "@1 hold h |x", "@1 hold h |x a", "@1 hold h |x a 1", "@1 hold h |a 1", "@1 hold h 5 a |x",
			"@1 hold h 5 a 1 b |+1", "@1 hold h |05 a x", "@1 extend e h |x", "@1 extend e h |x y", "@1 extend e h |-0", "@1 tick t |x", "@1 tick t |x y", "@1 tick t |T", "@1 tick t |1970-01-01", "@1 tick t |1970-01-01T", "@1 tick t |1970-01-01T25Z",
			"@1 tick t |1970-01-01t00:00Z", "@1 tick t |1970-02-30T00Z", "@1 tick t |5T", "@1 tick t |T5", "@1 tick t |1970-01-01T00:00:00-00:00", "@1 tick t |0000-01-01T00:00+00:01", "@1 tick t |" + strings.Repeat("1", 60) + "T0000Z",
			"run |x", "run |x y", "run |-0", "run |007", "run |1970-01-01T00Z", "run |#", "pick |x", "pick |x 1", "pick 1 |x", "pick |x y", "pick |@1 1", "mix |x", "mix |x y z", "mix 1 |x", "mix 1 3 |x", "mix 1 3 |x x", "mix 1 |- 5 x",
			"crash keep |x", "crash keep |torn", "crash keep |torn 1 2", "crash keep |keep", "crash keep |keep 1", "crash keep 1 |x", "crash keep 1 |keep 2", "crash keep 1 |x torn 2 3", "crash keep 1 2 |TORN 3 4", "crash keep |01",
			"crash torn |x", "crash torn |x 1", "crash torn |torn 1", "crash torn 1 |x", "crash torn |x y z", "crash torn |keep 1", "crash torn 1 |keep 1", "crash torn 1 |torn", "crash keep 1 torn |x", "crash keep 1 torn 2 |x", "crash keep 1 torn |torn 2", "crash keep 1 torn 2 |keep",
			"crash keep 9223372036854775807 |9223372036854775808", "crash torn -9223372036854775808 |-9223372036854775809",
		},
	} {
		for _, text := range list {
			line, column := marked(text)
			wantFault(t, d, line, err, 1, column)
			wantFault(t, d, line+"\n", err, 1, column)
			wantFault(t, d, "goods\n\n# x\n@1 restock a b 1\nrun\n"+line+"\n\x00\nx\n", err, 6, column)
			if f := faultOf(line); f != (fault{err, 1, column}) {
				t.Errorf("the twin of %q: %v", line, f)
			}
		}
	}
	wantSame(t, "scripts with faults", d, was)
	wantDo(t, d, "check\n", "0 check OK 0 1\n")
}

// TestP18_2_Numbers: numbers in all places, at their bounds and beyond, in forms that are none.
func TestP18_2_Numbers(t *testing.T) {
	d := opened(t, plain())
	forms := []string{"run %s", "pick %s 1", "pick 1 %s", "mix %s 3 5", "mix 1 %s 5", "mix 1 3 %s", "crash keep %s", "crash keep 1 %s torn 2 3", "crash torn %s 5", "crash torn 1 %s", "crash keep 1 torn %s 2",
		"@1 restock r a %s", "@1 writeoff r a 1 b %s", "@1 hold h %s a 1", "@1 hold h 5 a %s", "@1 extend e h %s", "@1 tick t %s"}
	for _, form := range forms {
		for _, text := range []string{"0", "1", "-1", "10", "-10", "9223372036854775807", "-9223372036854775808", "65536", "-9223372036854775807"} {
			if _, err := d.Do("#\n" + fmt.Sprintf(form, text) + "\ncrash\n"); err != nil {
				t.Errorf("%s with %s: %v", form, text, err)
			}
		}
		for _, text := range []string{"00", "01", "-0", "-00", "-01", "-", "--1", "+", "+0", "+1", "9223372036854775808", "-9223372036854775809", "18446744073709551616", "1e3", "0x1", "1_0", "1,0", "1.", ".", "1-", "one", strings.Repeat("9", 70)} {
			column := strings.Index(form, "%s")
			wantFault(t, d, "#\n"+fmt.Sprintf(form, text), desk.ErrNumber, 2, column)
		}
	}
	for _, text := range []string{"1", "2", "3", "16", "17", "9223372036854775807"} {
		if _, err := d.Do("@" + text + " save s"); err != nil {
			t.Errorf("@%s: %v", text, err)
		}
	}
}

// TestP18_2_Forms: every command, with each of its words missing, too many, or wrong, and with two wrong ones: the fault is the twin's, and a script that has none is played.
func TestP18_2_Forms(t *testing.T) {
	lines := []string{
		"@1 restock r a 1", "@1 restock r a 1 b 2", "@2 writeoff w a 1 b 2", "@1 hold h 5 a 1", "@1 hold h 5 a 1 b 2", "@1 commit c h", "@2 release r h", "@1 extend e h 5", "@1 read r a", "@1 read r a b c",
		"@1 tick t 5", "@1 tick t 1970-01-01T00:00:05Z", "@1 save s", "run", "run 5", "pick 1 2", "mix 1 3 5", "crash", "crash keep 0", "crash keep 0 1 2", "crash torn 0 5", "crash keep 0 torn 1 5", "crash keep 0 1 torn 1 5", "goods", "holds", "check",
	}
	wrong := []string{"x", "-0", "T", "@1", "@", "keep", "torn", "5", "#", "restock", "run", "1970-01-01T00Z"}
	faults, whole := map[error]int{}, 0
	ask := func(words []string) {
		for _, script := range []string{strings.Join(words, " "), "  " + strings.Join(words, "   ") + " \n"} {
			_, err := opened(t, brief()).Do(script)
			f := faultOf(script)
			if told(err) != f {
				t.Fatalf("Do(%q): %v, want %v", script, told(err), f)
			}
			faults[f.err]++
			if f.err == nil {
				whole++
			}
		}
	}
	for _, line := range lines {
		words := strings.Fields(line)
		ask(words)
		for i := range len(words) + 1 {
			ask(words[:i])
			for _, x := range wrong {
				ask(append(append(append([]string{}, words[:i]...), x), words[i:]...))
				if i == len(words) {
					continue
				}
				ask(append(append(append([]string{}, words[:i]...), x), words[i+1:]...))
				ask(append(append([]string{}, words[:i]...), words[i+1:]...))
				for j := i + 1; j < len(words); j++ {
					two := append([]string{}, words...)
					two[i], two[j] = x, wrong[(i+j)%len(wrong)]
					ask(two)
				}
			}
		}
	}
	for _, err := range []error{nil, desk.ErrDesk, desk.ErrCommand, desk.ErrWords, desk.ErrNumber} {
		if faults[err] < 50 {
			t.Errorf("%v: %d times alone", err, faults[err])
		}
	}
}

// TestP18_2_KeepAndTorn: every list of up to five words behind crash.
func TestP18_2_KeepAndTorn(t *testing.T) {
	d := opened(t, plain())
	words := []string{"keep", "torn", "1", "x"}
	level := []string{"crash"}
	for range 6 {
		var next []string
		for _, line := range level {
			text, err := d.Do(line)
			if f := faultOf(line); told(err) != f || (f.err == nil) != (text != "") {
				t.Errorf("Do(%q): %q, %v, want %v", line, text, told(err), f)
			}
			for _, word := range words {
				next = append(next, line+" "+word)
			}
		}
		level = next
	}
}

// TestP18_2_First: of faults in several lines that of the first line counts; of several in one line the one named first, and of the last three the one more to the left.
func TestP18_2_First(t *testing.T) {
	d := opened(t, plain())
	for _, x := range []struct {
		script       string
		err          error
		line, column int
	}{
		{"run x\n\x00", desk.ErrNumber, 1, 4}, {"goods\n@1\n\x00", desk.ErrCommand, 2, 2}, {"# \x00\nx", desk.ErrByte, 1, 2}, {"x \x00", desk.ErrByte, 1, 2}, {"@0 x \t", desk.ErrByte, 1, 5}, {"@1 hold h x \x80 y", desk.ErrByte, 1, 12},
		{"@0 hold", desk.ErrDesk, 1, 0}, {"@x", desk.ErrDesk, 1, 0}, {"@1 hold h x", desk.ErrNumber, 1, 10}, {"@1 hold h x a y", desk.ErrNumber, 1, 10}, {"@1 restock r a x b", desk.ErrNumber, 1, 15},
		{"@1 extend e h x y", desk.ErrNumber, 1, 14}, {"pick x", desk.ErrNumber, 1, 5}, {"mix x 1", desk.ErrNumber, 1, 4}, {"run x y", desk.ErrNumber, 1, 4}, {"crash now x", desk.ErrCommand, 1, 6}, {"crash torn x", desk.ErrNumber, 1, 11},
		{"goods x y", desk.ErrWords, 1, 6}, {"\n\n\n@1 save s t\nx", desk.ErrWords, 4, 10}, {"x\nx", desk.ErrCommand, 1, 0}, {"\r\n", desk.ErrByte, 1, 0}, {"goods\r\n", desk.ErrByte, 1, 5},
	} {
		wantFault(t, d, x.script, x.err, x.line, x.column)
	}
	wantDo(t, d, "check", "0 check OK 0 1\n")
}

// TestP18_2_Drawn: scripts whose lines have been changed in any places.
func TestP18_2_Drawn(t *testing.T) {
	tally := map[error]int{}
	c := plain()
	d := &writer{r: rand.New(rand.NewSource(182)), codes: c.Codes, handlers: c.Handlers}
	k := opened(t, c)
	for range 30000 {
		script := d.spoilt()
		f := faultOf(script)
		tally[f.err]++
		if f.err == nil {
			continue // the runs play these
		}
		if text, err := k.Do(script); text != "" || told(err) != f {
			t.Fatalf("Do(%q): %q, %v, want %v", script, text, told(err), f)
		}
	}
	for _, err := range variables()[1:] {
		if tally[err] < 200 {
			t.Errorf("%v: %d times alone", err, tally[err])
		}
	}
	wantDo(t, k, "check", "0 check OK 0 1\n")
}

// TestP18_2_Blanks: blanks ahead, behind and several in a row make no odds, nor lines that say nothing, nor the last byte 10.
func TestP18_2_Blanks(t *testing.T) {
	script := "@1 restock r " + goodA + " 5\n@2 hold h 60 " + goodA + " 2\nmix 3 3 7\nrun\n@1 read q " + goodB + " " + goodA + "\nrun 100\ncrash keep 0 torn 1 5\ngoods\nholds\ncheck\n"
	wanted := do(t, opened(t, plain()), script)
	for _, other := range []string{
		strings.TrimSuffix(script, "\n"),
		strings.ReplaceAll(script, " ", "    "),
		"   " + strings.ReplaceAll(script, "\n", "   \n   "),
		strings.ReplaceAll(script, "\n", "\n\n  \n# @1 save s\n  #\n#run\n"),
		strings.ReplaceAll(script, "\n", "\n# "+strings.Repeat("x ", 100)+"\n"),
	} {
		wantDo(t, opened(t, plain()), other, wanted)
	}
	if !strings.Contains(wanted, "check OK 3 2\n") {
		t.Errorf("%s", wanted)
	}
}
