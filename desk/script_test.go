package desk_test

import (
	"fmt"
	"strings"
	"testing"

	"larder/api"
	"larder/cal"
)

// TestP18_3_Numbers: each command has the next number, from script to script; scripts with a fault and lines that say nothing have none.
func TestP18_3_Numbers(t *testing.T) {
	d := opened(t, plain())
	wantDo(t, d, "", "")
	wantDo(t, d, "check\n# x\n\ncheck", "0 check OK 0 1\n1 check OK 0 1\n")
	if _, err := d.Do("check\ncheck\nx"); err == nil {
		t.Error("no fault")
	}
	wantLines(t, d, "@1 save s\n@9 save t\ncheck\nrun\n", "3 @9 t E70", "4 check OK 0 1", "2 @1 s OK", "5 run *")
	wantDo(t, d, "pick 9 9\ncrash torn 0 -1\nmix 0 0 0\nrun 0\n", "6 pick E70\n7 crash E2\n8 mix 0\n9 run 0\n")
	if _, err := d.Take("x"); err == nil {
		t.Error("no fault")
	}
	wantDo(t, d, "check", "10 check OK 1 1\n")
}

// TestP18_3_ReplyLines: what a reply's line tells: an error's number, a line above 0, a time that is not 0, levels.
func TestP18_3_ReplyLines(t *testing.T) {
	d := opened(t, single())
	for _, x := range []struct{ line, reply string }{
		{"restock r " + goodA + " 5 " + goodB + " 7", "r OK"},
		{"restock r " + goodA + " 6", "r E129"},
		{"read q " + goodB + " " + goodA + " " + goodB, "q OK " + goodA + " 5 0 " + goodB + " 7 0"},
		{"hold h 60 " + goodA + " 2 " + goodA + " 1", "h OK now 60"},
		{"hold i 60 " + goodB + " 1 " + goodA + " 3", "i E141 line 1"},
		{"hold i 60 " + goodA + " 3", "i E141"},
		{"hold h 61 " + goodA + " 2", "h E129"},
		{"read q " + goodA, "q OK " + goodA + " 5 3"},
		{"read q x", "q E140"},
		{"read q " + goodA + " " + goodB + " x", "q E140 line 2"},
		{"writeoff w " + goodA + " 1 " + goodB + " 8", "w E141 line 1"},
		{"writeoff w " + goodB + " 1", "w OK"},
		{"extend e h 7", "e OK now 7"},
		{"extend e i 7", "e E129"},
		{"extend f i 7", "f E142"},
		{"tick t 3", "t OK now 3"},
		{"tick t2 0", "t2 OK now 3"},
		{"hold j 1 " + goodA + " 1", "j OK now 4"},
		{"release l j", "l OK"},
		{"commit c h", "c OK"},
		{"commit c2 h", "c2 E142"},
		{"save s", "s OK"},
		{"restock m " + goodA + " 9223372036854775807 " + goodA + " 1", "m E125 line 1"},
		{"restock m " + goodA + " 9223372036854775807", "m E125"},
		{"restock m " + goodA + " 0", "m E124"},
		{"restock m " + goodA + " 1 " + goodB + " -1", "m E124 line 1"},
		{"hold k 0 " + goodA + " 1", "k E127"},
		{"tick t3 -1", "t3 E128"},
		{"tick t3 549755813889", "t3 E128"},
		{"tick t3 549755813888", "t3 OK now 549755813888"},
		{"restock " + strings.Repeat("i", 65) + " " + goodA + " 1", strings.Repeat("i", 65) + " E111"},
		{"restock ~!@#$%^&()[]{}|\\\"'`;:<>,.?/+=_- " + goodA + " 1", "~!@#$%^&()[]{}|\\\"'`;:<>,.?/+=_- OK"},
		{"commit c3 " + strings.Repeat("i", 65), "c3 E126"},
		{"read q " + strings.Repeat("x", 41), "q E123"},
		{"read q" + strings.Repeat(" "+goodA, 33), "q E122"},
		{"hold k 604800" + strings.Repeat(" "+goodA+" 1", 33), "k E122"},
	} {
		number := strings.Fields(do(t, d, "check"))[0]
		var n int
		fmt.Sscan(number, &n)
		wantLines(t, d, "@1 "+x.line+"\nrun\n", fmt.Sprintf("%d @1 %s", n+1, x.reply), fmt.Sprintf("%d run *", n+2))
	}
	wantLines(t, d, "goods\ncheck\nholds", "* goods 2", goodA+" 3 0 3", goodB+" 6 0 6", "* check OK 36 1", "* holds 0")
}

// TestP18_3_Below: numbers below 0 are numbers too: the store, or the desks, refuse what they say.
func TestP18_3_Below(t *testing.T) {
	d := opened(t, single())
	wantDo(t, d, "@1 tick t -9223372036854775808\nrun\n@1 tick t -1\nrun\npick -1 5\npick 0 5\npick -9223372036854775808 1\n", "0 @1 t E128\n1 run 3\n2 @1 t E128\n3 run 3\n4 pick E70\n5 pick E70\n6 pick E70\n")
}

// TestP18_3_Now: NOW as a number and as an instant of any zone and form.
func TestP18_3_Now(t *testing.T) {
	for _, x := range []struct {
		text  string
		reply string
	}{
		{"86400", "OK now 86400"}, {"1970-01-02T00:00:00Z", "OK now 86400"}, {"19700102T000000Z", "OK now 86400"}, {"1970-01-01T24Z", "OK now 86400"}, {"1970-002T00:00Z", "OK now 86400"}, {"1970-W01-5T01:30+01:30", "OK now 86400"},
		{"1970W015T0000Z", "OK now 86400"}, {"1970-01-01T12:00:00-12:00", "OK now 86400"}, {"19700102T2359+2359", "OK now 86400"}, {"1970-01-01T00:00:00Z", "OK"}, {"0", "OK"}, {"1969-12-31T23:59:59Z", "E128"}, {"0000-01-01T00:00:00Z", "E128"},
		{"9999-12-31T23:59:59Z", "OK now 253402300799"}, {"9999-12-31T00:00:00-23:59", "OK now 253402300740"}, {"2026-11-18T08:15:30+01:00", "OK now 1794986130"}, {"549755813888", "OK now 549755813888"},
	} {
		d := opened(t, single())
		wantLines(t, d, "@1 tick t "+x.text+"\nrun\n", "0 @1 t "+x.reply, "1 run *")
		if second, e, _ := cal.ParseInstant(x.text); e == api.OK && x.reply != "E128" {
			want(t, x.text, d.State().Now, second-api.Epoch)
		}
	}
}

// TestP18_3_Waiting: MaxWaiting requests wait at a desk, and one more does not; what is at work does not count, and other desks neither.
func TestP18_3_Waiting(t *testing.T) {
	c := roomy(2, goodA, goodB)
	d := opened(t, c)
	var script strings.Builder
	for i := range api.MaxWaiting {
		fmt.Fprintf(&script, "@1 restock r%d %s 1\n", i, goodA)
	}
	wantDo(t, d, script.String(), "")
	wantDo(t, d, "@1 restock x a 1\n@2 read q "+goodA+"\n@1 save y\n", "64 @1 x E5\n66 @1 y E5\n")
	wantDo(t, d, "pick 1 1\n@1 read z "+goodA+"\n@1 read u "+goodA+"\n", "67 pick 1\n69 @1 u E5\n")
	text := do(t, d, "run\n")
	last := 0
	for i := range api.MaxWaiting {
		at := strings.Index(text, fmt.Sprintf("%d @1 r%d OK\n", i, i))
		if at < last {
			t.Fatalf("request %d: %s", i, text)
		}
		last = at
	}
	if !strings.Contains(text, "\n68 @1 z OK "+goodA+" 64 0\n70 run ") || !strings.Contains(text, "65 @2 q OK "+goodA) {
		t.Errorf("%s", text)
	}
	wantDo(t, d, "goods\n", "71 goods 2\n"+goodA+" 64 0 64\n"+goodB+" 0 0 0\n")
}

// TestP18_3_NoDesk: requests for desks that are not there are refused at once, and take a number.
func TestP18_3_NoDesk(t *testing.T) {
	wantDo(t, opened(t, plain()), "@3 read r a\n@17 save s\n@9223372036854775807 hold h 5 a 1\nrun\npick 3 5\npick 9223372036854775807 -1\npick 2 5\n",
		"0 @3 r E70\n1 @17 s E70\n2 @9223372036854775807 h E70\n3 run 0\n4 pick E70\n5 pick E70\n6 pick 0\n")
	for handlers := 1; handlers <= 16; handlers++ {
		d := opened(t, roomy(handlers, goodA))
		wantDo(t, d, fmt.Sprintf("@%d save s\n@%d save s\npick %d 1\npick %d 1\n", handlers+1, handlers, handlers+1, handlers), fmt.Sprintf("0 @%d s E70\n2 pick E70\n3 pick 1\n", handlers+1))
	}
}

// TestP18_3_Run: how many picks a run makes: none below 1, as many as are named, MaxRun at most, and no more than there is to do.
func TestP18_3_Run(t *testing.T) {
	// Alone at one desk a refused request takes an Ask and two steps.
	for _, x := range []struct{ picks, made, rest string }{
		{"-9223372036854775808", "0", "3"}, {"-1", "0", "3"}, {"0", "0", "3"}, {"1", "1", "2"}, {"2", "2", "1"}, {"3", "3", "0"}, {"4", "3", "0"}, {"100000", "3", "0"}, {"100001", "3", "0"}, {"9223372036854775807", "3", "0"},
	} {
		d := opened(t, single())
		reply := "0 @1 t E128\n"
		first, second := "", reply
		if x.rest == "0" {
			first, second = reply, ""
		}
		wantDo(t, d, "@1 tick t -1\nrun "+x.picks+"\n", first+"1 run "+x.made+"\n")
		wantDo(t, d, "run\nrun\n", second+"2 run "+x.rest+"\n3 run 0\n")
	}
	// Of several desks each pick counts, and desk 1 is the first one each time.
	d := opened(t, roomy(3, goodA))
	wantDo(t, d, "@2 tick t -1\nrun 1\nrun 1\nrun 2\nrun 2\nrun\n", "1 run 1\n2 run 1\n3 run 2\n4 run 2\n0 @2 t E128\n5 run 2\n")
	d = opened(t, roomy(3, goodA))
	wantDo(t, d, "@3 tick t -1\n@1 tick s -1\n@1 tick u -1\nrun\n", "1 @1 s E128\n0 @3 t E128\n2 @1 u E128\n3 run 16\n")
}

// TestP18_3_MaxRun: one that is always at work: MaxRun picks at most, whatever is named.
func TestP18_3_MaxRun(t *testing.T) {
	tally := map[string]int{}
	for _, picks := range []string{"", " 100000", " 100001", " 9223372036854775807", " 99999"} {
		p := worn(t, 2, tally)
		made := "100000"
		if picks == " 99999" {
			made = "99999"
		}
		if text := p.do("run" + picks + "\n"); text != fmt.Sprintf("%d run %s\n", p.w.number-1, made) {
			t.Errorf("run%s: %s", picks, text)
		}
	}
}

// worn answers a shop with no moments left: at desk 1 a request is at work that never ends.
func worn(t *testing.T, handlers int, tally map[string]int) *pair {
	t.Helper()
	c := api.Config{Codes: []string{goodA, goodB}, Stripes: 64, Handlers: handlers, Sectors: 60, Slot: 10}
	p := pairOf(t, c, tally)
	for answered := true; answered; {
		text := do(t, p.d, "@1 tick t 1\nrun 1000\n")
		wanted, _ := p.w.do("@1 tick t 1\nrun 1000\n")
		want(t, "a tick", text, wanted)
		answered = strings.Contains(text, "OK")
	}
	p.compare("many ticks")
	if s := p.d.Story(); s.Moment != api.MaxPlay || !s.Ops[len(s.Ops)-1].Open {
		t.Fatalf("moment %d, the last op %s", s.Moment, show(s.Ops[len(s.Ops)-1]))
	}
	return p
}

// TestP18_3_Worn: behind MaxPlay moments requests that wait end with ErrFull, what is at work stays, and crashes are refused; nothing is lost then.
func TestP18_3_Worn(t *testing.T) {
	tally := map[string]int{}
	p := worn(t, 2, tally)
	n := p.w.number
	wants := func(script, want string) {
		t.Helper()
		if text := p.do(script); text != want {
			t.Errorf("%q: %s, want %s", script, text, want)
		}
	}
	wants("@2 save s\n@2 read q "+goodA+"\nrun 3\n", fmt.Sprintf("%d @2 s E5\n%d run 3\n", n, n+2))
	wants("pick 2 9\npick 1 9\nmix 1 3 9\n", fmt.Sprintf("%d @2 q E5\n%d pick 1\n%d pick 0\n%d mix 0\n", n+1, n+3, n+4, n+5))
	wants("@2 save s\n@1 save u\ncrash\ncrash keep 0\nrun\n", fmt.Sprintf("%d crash E5\n%d crash E5\n%d @2 s E5\n%d run 100000\n", n+8, n+9, n+6, n+10))
	p.do("goods\nholds\ncheck\n")
	if text := p.fill("id,what,code,qty,hold,ttl,now\r\na,save,,,,,\r\nb,save,,,,,\r\nc,save,,,,,\r\nd,save,,,,,\r\n"); text != "id,what,answer,line,now\r\na,save,E9,,\r\nb,save,E5,,\r\nc,save,E9,,\r\nd,save,E5,,\r\n" {
		t.Errorf("%s", text)
	}
	p.advice("S")
	// What of the sheet waited is gone; the script's request waits still.
	wants("pick 2 5\nrun 5\ncheck\n", fmt.Sprintf("%d pick 0\n%d run 5\n%d check OK %d 1\n", n+14, n+15, n+16, len(p.d.Story().Ops)))
	if tally["a document's request that still waited"] == 0 {
		t.Error("nothing waited")
	}
}

// TestP18_3_MaxHistory: behind MaxHistory requests each further one ends with ErrFull, at its Ask.
func TestP18_3_MaxHistory(t *testing.T) {
	p := pairOf(t, single(), nil)
	script := strings.Repeat("@1 tick t -1\n", 64) + "run\n"
	for range api.MaxHistory / 64 {
		p.d.Do(script)
		p.w.do(script)
	}
	n := p.w.number
	if text := p.do("check\n@1 tick t -1\n@1 save s\nrun\ncheck\n"); text != fmt.Sprintf("%d check OK 4096 1\n%d @1 t E5\n%d @1 s E5\n%d run 2\n%d check OK 4096 1\n", n, n+1, n+2, n+3, n+4) {
		t.Errorf("%s", text)
	}
	if text := p.do("@1 save s\npick 1 5\n"); text != fmt.Sprintf("%d @1 s E5\n%d pick 1\n", n+5, n+6) {
		t.Errorf("%s", text)
	}
	if text := p.do("@1 save s\n@1 save u\nmix 0 1 5\n"); text != fmt.Sprintf("%d @1 s E5\n%d @1 u E5\n%d mix 2\n", n+7, n+8, n+9) {
		t.Errorf("%s", text)
	}
}

// TestP18_3_Pick: how many picks of one desk did something: none below 1, at most as many as are named, and only those of the request.
func TestP18_3_Pick(t *testing.T) {
	for _, x := range []struct{ picks, did string }{
		{"-9223372036854775808", "0"}, {"-1", "0"}, {"0", "0"}, {"1", "1"}, {"2", "2"}, {"100000", "6"}, {"100001", "6"}, {"9223372036854775807", "6"},
	} {
		d := opened(t, plain())
		text := do(t, d, "@2 tick t -1\n@2 tick u -1\npick 2 "+x.picks+"\n")
		if !strings.HasSuffix(text, "2 pick "+x.did+"\n") {
			t.Errorf("pick 2 %s: %s", x.picks, text)
		}
		if x.did == "6" && text != "0 @2 t E128\n1 @2 u E128\n2 pick 6\n" {
			t.Errorf("pick 2 %s: %s", x.picks, text)
		}
	}
	// One that is blocked goes no further, and another desk's picks let it on.
	d := opened(t, plain())
	wantDo(t, d, "@1 save s\n@2 save u\npick 1 4\npick 2 9\npick 2 9\n", "2 pick 4\n3 pick 3\n4 pick 0\n")
	wantLines(t, d, "pick 1 999\npick 2 999\n", "0 @1 s OK", "5 pick *", "1 @2 u OK", "6 pick *")
	wantDo(t, d, "pick 1 5\n", "7 pick 0\n")
}

// full answers a shop at whose desks as many ticks wait as can, so many that no run comes to their end.
func full(t *testing.T) *pair {
	t.Helper()
	p := pairOf(t, api.Config{Codes: []string{goodA}, Stripes: 64, Handlers: 16, Sectors: 2400, Slot: 700}, nil)
	for n := range 16 {
		p.do(strings.Repeat(fmt.Sprintf("@%d tick t 1\n", n+1), api.MaxWaiting))
	}
	return p
}

// TestP18_3_MostPicks: where there is more to do, MaxRun picks are made, and a mix goes over MaxPicks; what is left goes on behind them.
func TestP18_3_MostPicks(t *testing.T) {
	for _, x := range []struct {
		command string
		most    int
	}{{"run", 100000}, {"run 100000", 100000}, {"run 100001", 100000}, {"run 9223372036854775807", 100000}, {"run 99999", 99999}, {"mix 5 31 65536", 65536}, {"mix 5 31 65537", 65536}, {"mix 5 31 9223372036854775807", 65536}} {
		p := full(t)
		text := p.do(x.command + "\n")
		word, _, _ := strings.Cut(x.command, " ")
		if word == "run" && !strings.HasSuffix(text, fmt.Sprintf("\n1024 run %d\n", x.most)) {
			t.Errorf("%s: %s", x.command, text)
		}
		if moment := p.d.Story().Moment; moment > x.most || moment < x.most/20 {
			t.Errorf("%s: %d moments", x.command, moment)
		}
		p.do("mix 5 31 500\npick 3 100001\ncrash\ncheck\n")
	}
}

// TestP18_3_Mix: the picks of a mix are sched.Mixed's: as many as are named, or as there are, and which of them did something is counted.
func TestP18_3_Mix(t *testing.T) {
	for _, handlers := range []int{1, 2, 3, 16} {
		c := roomy(handlers, goodA, goodB)
		c.Slot, c.Sectors = 60, 300
		for _, seed := range []int{0, -1, 77, greatest, least} {
			for _, k := range []int{least, 0, 2*handlers - 2, 2*handlers - 1, 50, 1024, 1025, greatest} {
				for _, picks := range []int{least, -1, 0, 1, 40, 65537, greatest} {
					if picks == 65537 && k != 50 {
						continue
					}
					p := pairOf(t, c, nil)
					var script strings.Builder
					for n := range handlers {
						fmt.Fprintf(&script, "@%d restock r%d %s 5\n@%d read q%d %s\n", n+1, n, goodA, n+1, n, goodA)
					}
					fmt.Fprintf(&script, "mix %d %d %d\n", seed, k, picks)
					text := p.do(script.String())
					isNone := picks < 1 || k < 2*handlers-1 || k > 1024
					if isNone != strings.HasSuffix(text, fmt.Sprintf("%d mix 0\n", 2*handlers)) {
						t.Errorf("mix %d %d %d with %d desks: %s", seed, k, picks, handlers, text)
					}
					if p.broken {
						t.FailNow()
					}
				}
			}
		}
	}
}

// TestP18_3_Crash: what is at work and what waits at several desks is lost, told in the order of the commands; then nothing waits.
func TestP18_3_Crash(t *testing.T) {
	d := opened(t, roomy(3, goodA, goodB))
	script := "@3 restock c " + goodA + " 1\n@1 restock a " + goodA + " 1\n@1 restock a2 " + goodB + " 1\n@2 read b " + goodA + "\n@3 read c2 " + goodA + "\n@3 save c3\n"
	wantDo(t, d, script+"pick 3 4\npick 1 2\ncrash\nrun\ngoods\nholds\ncheck\n",
		"6 pick 4\n7 pick 2\n0 @3 c lost\n1 @1 a lost\n2 @1 a2 lost\n3 @2 b lost\n4 @3 c2 lost\n5 @3 c3 lost\n8 crash OK\n9 run 0\n10 goods 2\n"+goodA+" 0 0 0\n"+goodB+" 0 0 0\n11 holds 0\n12 check OK 2 2\n")
	wantDo(t, d, "crash\ncrash\ncheck\n", "13 crash OK\n14 crash OK\n15 check OK 2 4\n")
	// What was answered is not lost.
	wantLines(t, d, "@1 restock a "+goodA+" 3\nrun\n@1 restock b "+goodA+" 4\ncrash\ngoods\n", "16 @1 a OK", "17 run *", "18 @1 b lost", "19 crash OK", "20 goods 2", goodA+" 3 0 3", goodB+" 0 0 0")
}

// TestP18_3_CrashRefused: a power failure that till.Crash refuses: nothing is lost, and all goes on.
func TestP18_3_CrashRefused(t *testing.T) {
	for _, bytes := range []string{"-1", "129", "9223372036854775807", "-9223372036854775808"} {
		d := opened(t, plain())
		wantDo(t, d, "@1 restock a "+goodA+" 3\n@1 read b "+goodA+"\n@2 read c "+goodA+"\npick 1 5\ncrash torn 0 "+bytes+"\ncrash keep 0 torn 0 "+bytes+"\n", "3 pick 5\n4 crash E2\n5 crash E2\n")
		text := do(t, d, "run\ncheck\n")
		for _, reply := range []string{"0 @1 a OK\n", "1 @1 b OK " + goodA + " 3 0\n", "2 @2 c OK " + goodA, "7 check OK 3 1\n"} {
			if !strings.Contains(text, reply) {
				t.Errorf("%s", text)
			}
		}
	}
	for _, bytes := range []string{"0", "1", "128"} {
		wantDo(t, opened(t, plain()), "crash torn 0 "+bytes, "0 crash OK\n")
	}
}

// TestP18_3_CrashKeeps: Keep, Torn and Bytes are what the power failure leaves of the loose writes; Torn is -1 where it is not said.
func TestP18_3_CrashKeeps(t *testing.T) {
	there := goodA + " 5 0 5\n" + goodB + " 0 0 0\n"
	gone := goodA + " 0 0 0\n" + goodB + " 0 0 0\n"
	for _, x := range []struct{ crash, goods string }{
		{"crash", gone}, {"crash keep 0", there}, {"crash keep 1", gone}, {"crash keep -1", gone}, {"crash keep 7 0 7 0", there}, {"crash torn 0 60", gone}, {"crash torn 0 0", gone}, {"crash torn 0 128", there}, {"crash torn 1 128", gone},
		{"crash torn -1 128", gone}, {"crash keep 0 torn 0 3", there}, {"crash keep 1 torn 0 128", there}, {"crash keep 1 2 3 torn 0 100", gone}, {"crash keep 9223372036854775807 0 torn -9223372036854775808 5", there},
	} {
		d := opened(t, plain())
		text := do(t, d, "@1 restock a "+goodA+" 5\npick 1 "+fmt.Sprint(toLoose(t))+"\n"+x.crash+"\ngoods\ncheck\n")
		if !strings.Contains(text, "\n0 @1 a lost\n2 crash OK\n3 goods 2\n"+x.goods+"4 check OK 1 2\n") {
			t.Errorf("%s: %s", x.crash, text)
		}
	}
}

// toLoose answers how many picks bring the restock of the test above to where its write is loose.
func toLoose(t *testing.T) int {
	t.Helper()
	for picks := 1; picks < 40; picks++ {
		d := opened(t, plain())
		text := do(t, d, fmt.Sprintf("@1 restock a %s 5\npick 1 %d\ncrash keep 0\ngoods\n", goodA, picks))
		if strings.Contains(text, goodA+" 5 0 5") {
			return picks
		}
	}
	t.Fatal("its write is never loose")
	return 0
}

// TestP18_3_Tells: goods, holds and check tell what stands, in the midst of effects too.
func TestP18_3_Tells(t *testing.T) {
	d := opened(t, single())
	wantDo(t, d, "goods\nholds\ncheck", "0 goods 2\n"+goodA+" 0 0 0\n"+goodB+" 0 0 0\n1 holds 0\n2 check OK 0 1\n")
	do(t, d, "@1 restock r "+goodA+" 9 "+goodB+" 9223372036854775807\n@1 hold z 60 "+goodB+" 3 "+goodA+" 1 "+goodB+" 4\n@1 hold b 5 "+goodA+" 2\nrun\n")
	wantDo(t, d, "goods\nholds\ncheck", "7 goods 2\n"+goodA+" 9 3 6\n"+goodB+" 9223372036854775807 7 9223372036854775800\n8 holds 2\nb 5 "+goodA+" 2\nz 60 "+goodA+" 1 "+goodB+" 7\n9 check OK 3 1\n")
	do(t, d, "@1 tick t 5\nrun\n@1 commit c z\n")
	wantDo(t, d, "goods\nholds\ncheck", "13 goods 2\n"+goodA+" 9 1 8\n"+goodB+" 9223372036854775807 7 9223372036854775800\n14 holds 1\nz 60 "+goodA+" 1 "+goodB+" 7\n15 check OK 4 1\n")
	// Step by step a commit turns one level behind the other, and then the hold goes.
	seen := map[string]bool{}
	for range 40 {
		text := do(t, d, "pick 1 1\ngoods\nholds\n")
		parts := strings.SplitN(text, " goods 2\n", 2)
		seen[strings.Join(strings.Split(parts[1], "\n")[:2], ", ")] = true
		s := d.State()
		for _, v := range s.Levels {
			if !strings.Contains(text, fmt.Sprintf("%s %d %d %d\n", v.Code, v.OnHand, v.Held, v.OnHand-v.Held)) {
				t.Errorf("%s of %s", text, show(s))
			}
		}
		if !strings.Contains(text, fmt.Sprintf(" holds %d\n", len(s.Holds))) {
			t.Errorf("%s of %s", text, show(s))
		}
	}
	want(t, "sights of the levels", len(seen), 3)
}

// TestP18_3_Order: replies come ahead of the command's own line, in the order in which they come.
func TestP18_3_Order(t *testing.T) {
	d := opened(t, roomy(2, goodA))
	wantDo(t, d, "@2 tick b -1\n@1 tick a -1\npick 2 3\npick 1 3\n", "0 @2 b E128\n2 pick 3\n1 @1 a E128\n3 pick 3\n")
	wantDo(t, d, "@2 tick b -1\n@1 tick a -1\nrun\n", "5 @1 a E128\n4 @2 b E128\n6 run 6\n")
	text := do(t, d, "@2 tick b -1\n@1 tick a -1\nmix 4 3 20\n")
	if !strings.HasSuffix(text, "9 mix 6\n") || strings.Count(text, "E128") != 2 {
		t.Errorf("%s", text)
	}
}
