package desk_test

import (
	"errors"
	"fmt"
	"strings"
	"testing"

	"larder/api"
	"larder/desk"
	"larder/mend"
)

// TestP18_1_Open: what mend refuses is refused with its error; else there are as many desks as handlers, and nothing waits.
func TestP18_1_Open(t *testing.T) {
	change := func(turn func(*api.Config)) api.Config {
		c := plain()
		turn(&c)
		return c
	}
	for _, c := range []api.Config{
		{}, change(func(c *api.Config) { c.Stripes = 0 }), change(func(c *api.Config) { c.Stripes = 65 }), change(func(c *api.Config) { c.Handlers = 0 }), change(func(c *api.Config) { c.Handlers = 17 }), change(func(c *api.Config) { c.Handlers = least }),
		change(func(c *api.Config) { c.Slot = 1 }), change(func(c *api.Config) { c.Slot = 1025 }), change(func(c *api.Config) { c.Sectors = 20 }), change(func(c *api.Config) { c.Sectors = 4097 }), change(func(c *api.Config) { c.Codes = nil }),
		change(func(c *api.Config) { c.Codes = []string{""} }), change(func(c *api.Config) { c.Codes = []string{"b", "a"} }), change(func(c *api.Config) { c.Codes = trades(513) }), change(func(c *api.Config) { c.Codes = trades(200) }),
	} {
		_, wanted := mend.Format(c)
		d, e := desk.Open(c)
		if d != nil || e != wanted || e == api.OK {
			t.Errorf("Open(%s): %v, %d, want %d", show(c), d, e, wanted)
		}
		text, err := desk.Run(c, "goods\n", "x")
		if text != "" || err != nil {
			t.Errorf("Run(%s): %q, %v", show(c), text, err)
		}
	}
	for handlers := 1; handlers <= 16; handlers++ {
		c := plain()
		c.Handlers = handlers
		d := opened(t, c)
		for n := 1; n <= handlers; n++ {
			wantDo(t, d, fmt.Sprintf("pick %d 5\n", n), fmt.Sprintf("%d pick 0\n", n-1))
		}
		wantDo(t, d, fmt.Sprintf("pick %d 5\nrun\ncheck\nholds\n", handlers+1), fmt.Sprintf("%d pick E70\n%d run 0\n%d check OK 0 1\n%d holds 0\n", handlers, handlers+1, handlers+2, handlers+3))
		if s := d.State(); s.Lsn != 0 || s.Now != 0 || len(s.Levels) != 2 || s.Room != mend.Room(c) {
			t.Errorf("%s", show(s))
		}
		if s := d.Story(); len(s.Ops) != 0 || s.Lives != 1 || s.Moment != 0 || s.Busy != 0 {
			t.Errorf("%s", show(s))
		}
	}
}

// TestP18_1_Handlers: desk n works by handler n - 1: what a till does that is picked so.
func TestP18_1_Handlers(t *testing.T) {
	p := pairOf(t, roomy(5, goodA, goodB), nil)
	for n := 1; n <= 5; n++ {
		p.do(fmt.Sprintf("@%d restock r%d %s %d\npick %d %d\n", n, n, goodA, n, n, 7*n))
	}
	p.do("run 13\npick 3 9\nmix 1 9 50\nrun\ngoods\ncheck\n")
}

// TestP18_1_Pick: a pick of a desk: an Ask if its handler is idle and a request waits, else a step; the reply is told at the pick that ends the request.
func TestP18_1_Pick(t *testing.T) {
	d := opened(t, single())
	wantDo(t, d, "@1 tick t -1\n@1 tick u -1\npick 1 1\n", "2 pick 1\n")
	want(t, "moment", d.Story().Moment, 1)
	want(t, "ops", len(d.Story().Ops), 1)
	wantDo(t, d, "pick 1 1\n", "3 pick 1\n")
	wantDo(t, d, "pick 1 1\n", "0 @1 t E128\n4 pick 1\n")
	want(t, "ops", len(d.Story().Ops), 1)
	wantDo(t, d, "pick 1 1\n", "5 pick 1\n")
	want(t, "ops", len(d.Story().Ops), 2)
	wantDo(t, d, "pick 1 1\npick 1 1\npick 1 1\n", "6 pick 1\n1 @1 u E128\n7 pick 1\n8 pick 0\n")
	want(t, "moment", d.Story().Moment, 6)
}

// TestP18_7_Nil: every call of a nil Desk, and of one that no Open has made.
func TestP18_7_Nil(t *testing.T) {
	for _, d := range []*desk.Desk{nil, {}} {
		for _, text := range []string{"", "goods\n", "x", "@1 save s\nrun\ncrash\nmix 1 1 1\npick 1 1\n", "\x00", heads + "a,save,,,,,\r\n", one(t, "N", ordered(goodA, 1)), strings.Repeat("x", 70000), "S-1"} {
			for name, call := range map[string]func(string) (string, error){"Do": d.Do, "Take": d.Take, "Fill": d.Fill, "Advice": d.Advice} {
				if answer, err := call(text); answer != "" || err != nil {
					t.Errorf("%s(%.50q): %q, %v", name, text, answer, err)
				}
			}
		}
		if !equal(d.State(), api.State{}) || !equal(d.Story(), api.Story{}) {
			t.Errorf("%s, %s", show(d.State()), show(d.Story()))
		}
	}
}

// TestP18_7_Run: no script, several, and one with a fault between others.
func TestP18_7_Run(t *testing.T) {
	c := plain()
	restock := "@1 restock r " + goodA + " 5\n"
	goods := " goods 2\n" + goodA + " 5 0 5\n" + goodB + " 0 0 0\n"
	for _, x := range []struct {
		scripts []string
		text    string
		f       fault
	}{
		{nil, "", fault{}}, {[]string{}, "", fault{}}, {[]string{""}, "", fault{}}, {[]string{"check"}, "0 check OK 0 1\n", fault{}}, {[]string{"check", "", "# x", "check\n"}, "0 check OK 0 1\n1 check OK 0 1\n", fault{}},
		{[]string{restock, "pick 1 99", "goods"}, "0 @1 r OK\n1 pick 22\n2" + goods, fault{}}, {[]string{"x"}, "", fault{desk.ErrCommand, 1, 0}}, {[]string{"x", "check"}, "", fault{desk.ErrCommand, 1, 0}},
		{[]string{"check", "check\n\x00", "check", "x"}, "0 check OK 0 1\n", fault{desk.ErrByte, 2, 0}}, {[]string{"check\n", "check\n", "\nrun x"}, "0 check OK 0 1\n1 check OK 0 1\n", fault{desk.ErrNumber, 2, 4}},
		{[]string{"check\n", strings.Repeat("#", 65537)}, "0 check OK 0 1\n", fault{desk.ErrLong, 1, 65536}},
	} {
		text, err := desk.Run(c, x.scripts...)
		if text != x.text || told(err) != x.f {
			t.Errorf("Run(%.300q): %q, %v, want %q, %v", x.scripts, text, told(err), x.text, x.f)
		}
		d := opened(t, c)
		all := ""
		for _, script := range x.scripts {
			answer, err := d.Do(script)
			if err != nil {
				break
			}
			all += answer
		}
		want(t, "the scripts one by one", all, text)
	}
	text, err := desk.Run(c)
	if text != "" || err != nil {
		t.Errorf("%q, %v", text, err)
	}
	_, err = desk.Run(c, "goods x")
	var f *desk.Fault
	if !errors.As(err, &f) || f.Line != 1 || f.Column != 6 || f.Err != desk.ErrWords {
		t.Errorf("%v", err)
	}
}
