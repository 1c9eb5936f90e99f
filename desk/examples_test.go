package desk_test

import (
	"strings"
	"testing"

	"larder/desk"
)

// TestExamples: those of the chapter.
func TestExamples(t *testing.T) {
	// 1.
	d := opened(t, plain())
	wantLines(t, d, "@1 restock r1 12345670 5\nrun\n", "0 @1 r1 OK", "1 run *")
	// 2.
	text := do(t, d, "@1 hold h 60 12345670 2\n@2 hold i 60 12345670 4\nrun\nholds\n")
	first := strings.Contains(text, "2 @1 h OK now 60\n") && strings.Contains(text, "3 @2 i E141\n") && strings.HasSuffix(text, "5 holds 1\nh 60 12345670 2\n")
	second := strings.Contains(text, "2 @1 h E141\n") && strings.Contains(text, "3 @2 i OK now 60\n") && strings.HasSuffix(text, "5 holds 1\ni 60 12345670 4\n")
	if first == second {
		t.Errorf("%s", text)
	}
	// 3.
	wantFault(t, d, "@1 hold h\n", desk.ErrWords, 1, 9)
	wantFault(t, d, "@x read r a", desk.ErrDesk, 1, 0)
	wantFault(t, d, "@1 buy x", desk.ErrCommand, 1, 3)
	wantFault(t, d, "run x", desk.ErrNumber, 1, 4)
	wantFault(t, d, "\n\tgoods", desk.ErrByte, 2, 0)
	wantDo(t, opened(t, plain()), "@3 read r a\n", "0 @3 r E70\n")
	// 4.
	wantDo(t, opened(t, plain()), "@1 restock r1 12345670 5\npick 1 3\ncrash\ngoods\n", "1 pick 3\n0 @1 r1 lost\n2 crash OK\n3 goods 2\n12345670 0 0 0\n96385074 0 0 0\n")
	// 5.
	answer, err := opened(t, plain()).Fill("id,what,code,qty,hold,ttl,now\r\ns,restock,12345670,3,,,\r\n")
	if answer != "id,what,answer,line,now\r\ns,restock,OK,,\r\n" || err != nil {
		t.Errorf("%q, %v", answer, err)
	}
	// 6.
	wantDo(t, opened(t, plain()), "# nothing\n\n", "")
}
