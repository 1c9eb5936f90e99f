package sheet_test

import (
	"math/rand"
	"slices"
	"strings"
	"testing"

	"larder/sheet"
)

func wantParsed(t *testing.T, text string, rows [][]string, want fault) {
	t.Helper()
	got, err := sheet.Parse(text)
	if told(err) != want || want.err == nil && !same(got, rows) || want.err != nil && len(got) != 0 {
		t.Errorf("Parse(%s): %q, %v, want %v", short(text), got, told(err), want)
	}
}

func wantAsSlowly(t *testing.T, text string) {
	t.Helper()
	slowly := readSlowly(text)
	wantParsed(t, text, slowly.rows, slowly.fault)
}

func TestP4_2Rows(t *testing.T) {
	for text, rows := range map[string][][]string{
		"":                  nil,
		"\r\n":              {{""}},
		"\r\n\r\n":          {{""}, {""}},
		"a\r\nb":            {{"a"}, {"b"}},
		"a\r\nb\r\n":        {{"a"}, {"b"}},
		",\r\n,":            {{"", ""}, {"", ""}},
		"a,\"\"":            {{"a", ""}},
		"\"\",\"\"\r\n":     {{"", ""}},
		"\"\"\"\"":          {{"\""}},
		"\"\"\"\"\"\"":      {{"\"\""}},
		"\"a\"\"\"":         {{"a\""}},
		"\"\r\",\"\n\"":     {{"\r", "\n"}},
		"\"\r\n\r\n\"\r\nx": {{"\r\n\r\n"}, {"x"}},
		"\"a\tb\",\" \"":    {{"a\tb", " "}},
		" a , b ":           {{" a ", " b "}},
		"\"\xfe\",\x80,é":   {{"\xfe", "\x80", "é"}},
	} {
		wantParsed(t, text, rows, fault{})
	}
}

func TestP4_2Faults(t *testing.T) {
	for text, want := range map[string]fault{
		"\n":                       {sheet.ErrLine, 1, 0},
		"a,\n":                     {sheet.ErrLine, 1, 2},
		"\"a\"\n":                  {sheet.ErrLine, 1, 3},
		"\r":                       {sheet.ErrLine, 1, 0},
		"\r\r\n":                   {sheet.ErrLine, 1, 0},
		"\"a\"\r":                  {sheet.ErrLine, 1, 3},
		"\"a\"\rb":                 {sheet.ErrLine, 1, 3},
		"\"a\n\n\"\r":              {sheet.ErrLine, 3, 1},
		"a\t":                      {sheet.ErrByte, 1, 1},
		"\t":                       {sheet.ErrByte, 1, 0},
		"a\x7f":                    {sheet.ErrByte, 1, 1},
		"\"\x7f":                   {sheet.ErrByte, 1, 1},
		"\"a\"\x01":                {sheet.ErrQuote, 1, 3},
		"\"a\"\t":                  {sheet.ErrQuote, 1, 3},
		"\"a\" ":                   {sheet.ErrQuote, 1, 3},
		" \"a\"":                   {sheet.ErrQuote, 1, 1},
		"a,b\"":                    {sheet.ErrQuote, 1, 3},
		"\"":                       {sheet.ErrOpen, 1, 0},
		"\"\"\"":                   {sheet.ErrOpen, 1, 0},
		"a,\"b":                    {sheet.ErrOpen, 1, 2},
		"\x80\xff,é,\"\xfe":        {sheet.ErrOpen, 1, 6},
		"a\r\n\"b\nc\nd":           {sheet.ErrOpen, 2, 0},
		"\"x\n\",\"y":              {sheet.ErrOpen, 2, 2},
		"a,b\r\nc":                 {sheet.ErrRagged, 2, 1},
		"a,b\r\n\r\n":              {sheet.ErrRagged, 2, 0},
		"a\r\nb,c\r\n":             {sheet.ErrRagged, 2, 3},
		"a\r\n\"b\n\nc\",\"\"\r\n": {sheet.ErrRagged, 4, 5},
		"a\r\nb,":                  {sheet.ErrRagged, 2, 2},
	} {
		wantParsed(t, text, nil, want)
	}
}

func TestP4_2TheFirstOfSeveralFaults(t *testing.T) {
	full := strings.Repeat("x", 4096)
	rows := strings.Repeat("\r\n", 4096)
	for _, x := range []struct {
		text string
		want fault
	}{
		{"a\r\nb,c\rd", fault{sheet.ErrLine, 2, 3}},        // ragged, but not over
		{"a\r\nb,c\r", fault{sheet.ErrLine, 2, 3}},         // the same at the end
		{"a\r\nb,c\"", fault{sheet.ErrQuote, 2, 3}},        // ragged, but not over
		{"\"a\x00", fault{sheet.ErrByte, 1, 2}},            // open, but that shows at the end
		{"\"" + full + "y", fault{sheet.ErrCell, 1, 4097}}, // the same
		{full + "\n", fault{sheet.ErrLine, 1, 4096}},       // no cell is too long by these
		{full + "\"", fault{sheet.ErrQuote, 1, 4096}},
		{full + "\t", fault{sheet.ErrByte, 1, 4096}},
		{full + "\x00", fault{sheet.ErrByte, 1, 4096}},
		{full + "\r", fault{sheet.ErrLine, 1, 4096}},
		{"\"" + full + "\x00", fault{sheet.ErrByte, 1, 4097}},
		{"\"" + full + "\n", fault{sheet.ErrCell, 1, 4097}},
		{"\"" + full + "\"\n", fault{sheet.ErrLine, 1, 4098}},
		{"\"" + full + "\"x", fault{sheet.ErrQuote, 1, 4098}},
		{"\"" + full + "\"\"", fault{sheet.ErrCell, 1, 4098}},
		{rows + "\n", fault{sheet.ErrRows, 4097, 0}},
		{rows + "\x00", fault{sheet.ErrRows, 4097, 0}},
		{rows + "\"", fault{sheet.ErrRows, 4097, 0}},
		{rows + "\r", fault{sheet.ErrRows, 4097, 0}},
		{rows + ",", fault{sheet.ErrRows, 4097, 0}},
		{strings.Repeat(",", 63) + "\r\n" + strings.Repeat(",", 64), fault{sheet.ErrCells, 2, 63}},
	} {
		wantParsed(t, x.text, nil, x.want)
	}
}

func TestP4_2AllShortTexts(t *testing.T) {
	eachText("a,\"\r\n\t\x01", 6, func(text string) { wantAsSlowly(t, text) })
	eachText("a,\"\r\n", 8, func(text string) { wantAsSlowly(t, text) })
}

func TestP4_2EveryByteInEveryPlace(t *testing.T) {
	for _, text := range []string{"ab,c\r\nd,ef\r\n", "\"ab\",\"c\"\"d\"\r\ne,\"\"\r\n", "\"\r\n\",x\r\n\"\",\"\n\""} {
		for at := range len(text) {
			for c := range 256 {
				with := string([]byte{byte(c)})
				wantAsSlowly(t, text[:at]+with+text[at+1:])
				wantAsSlowly(t, text[:at]+with+text[at:])
			}
			wantAsSlowly(t, text[:at])
			wantAsSlowly(t, text[:at]+text[at+1:])
		}
	}
}

func TestP4_2Cells(t *testing.T) {
	full := strings.Repeat("x", 4096)
	wantParsed(t, full, [][]string{{full}}, fault{})
	wantParsed(t, full+","+full+"\r\n", [][]string{{full, full}}, fault{})
	wantParsed(t, full+"y", nil, fault{sheet.ErrCell, 1, 4096})
	wantParsed(t, "a,"+full+"y", nil, fault{sheet.ErrCell, 1, 4098})
	wantParsed(t, "\""+full+"\"", [][]string{{full}}, fault{})
	wantParsed(t, "\""+full+"y\"", nil, fault{sheet.ErrCell, 1, 4097})
	quotes := strings.Repeat("\"", 4096)
	wantParsed(t, "\""+quotes+quotes+"\"", [][]string{{quotes}}, fault{})
	wantParsed(t, "\""+quotes+quotes+"\"\"", nil, fault{sheet.ErrCell, 1, 8194})
	lines := strings.Repeat("\n", 4096)
	wantParsed(t, "\""+lines+"\"", [][]string{{lines}}, fault{})
	wantParsed(t, "\""+lines+"\n\"", nil, fault{sheet.ErrCell, 4097, 0})
}

func TestP4_2CellsOfARow(t *testing.T) {
	row := strings.Repeat(",", 63)
	wantParsed(t, row, [][]string{make([]string, 64)}, fault{})
	wantParsed(t, row+"\r\n", [][]string{make([]string, 64)}, fault{})
	wantParsed(t, row+",\r\n", nil, fault{sheet.ErrCells, 1, 63})
	wantParsed(t, row+"x,", nil, fault{sheet.ErrCells, 1, 64})
	wantParsed(t, row+"\"\",", nil, fault{sheet.ErrCells, 1, 65})
	wantParsed(t, "x\r\n"+row+",", nil, fault{sheet.ErrCells, 2, 63})
}

func TestP4_2RowsOfASheet(t *testing.T) {
	rows := slices.Repeat([][]string{{""}}, 4096)
	full := strings.Repeat("\r\n", 4096)
	wantParsed(t, full, rows, fault{})
	wantParsed(t, strings.TrimSuffix(full, "\r\n")+"\"\"", rows, fault{})
	wantParsed(t, full+"x", nil, fault{sheet.ErrRows, 4097, 0})
	wantParsed(t, "\"\n\""+full+"\r\n", nil, fault{sheet.ErrRows, 4098, 0})
}

func TestP4_2LongTexts(t *testing.T) {
	for _, size := range []int{262143, 262144, 262145, 262146, 300000} {
		wantAsSlowly(t, oneCell(size))
	}
	wantParsed(t, oneCell(262144)+"x", nil, fault{sheet.ErrLong, 66, 2014})
	wantParsed(t, oneCell(262144)+"\n", nil, fault{sheet.ErrLong, 66, 2014})
	wantParsed(t, oneCell(262142)+"\r\nx", nil, fault{sheet.ErrLong, 67, 0})
	long := oneCell(262144)
	for cut := 1; cut <= 3; cut++ {
		for _, wrong := range []string{"\n", "\"", "\x00", "\t", ",", "\r", ",\r", "\r\n", ",\r\n", ",\"", "\rx", ",\"\"", ",\"\"x"} {
			for _, behind := range []string{"", "x", "\n", "\"", "xxxx", "\r\nxxx"} {
				wantAsSlowly(t, long[:len(long)-cut]+wrong+behind)
			}
		}
	}
}

// sheetText writes a sheet as chance will have it: quoted where need be, and elsewhere too.
func sheetText(r *rand.Rand) string {
	letters := []string{"a", "b", " ", "é", "\xff", ",", "\"", "\r", "\n", "\r\n", "\t", "0"}
	width := 1 + r.Intn(4)
	var b strings.Builder
	for range r.Intn(6) {
		for i := range width {
			if i > 0 {
				b.WriteByte(',')
			}
			cell := ""
			for range r.Intn(5) {
				cell += letters[r.Intn(len(letters))]
			}
			if strings.ContainsAny(cell, ",\"\r\n\t") || r.Intn(3) == 0 {
				cell = "\"" + strings.ReplaceAll(cell, "\"", "\"\"") + "\""
			}
			b.WriteString(cell)
		}
		b.WriteString("\r\n")
	}
	if text := b.String(); r.Intn(2) == 0 {
		return strings.TrimSuffix(text, "\r\n")
	}
	return b.String()
}

// spoil changes, takes out or puts in a byte.
func spoil(r *rand.Rand, text string) string {
	bytes := ",\"\r\n\ta\x00\x7f"
	at, c := r.Intn(len(text)+1), bytes[r.Intn(len(bytes)):][:1]
	switch {
	case r.Intn(3) == 0 || at == len(text):
		return text[:at] + c + text[at:]
	case r.Intn(2) == 0:
		return text[:at] + c + text[at+1:]
	}
	return text[:at] + text[at+1:]
}

func TestP4_2SheetsOfChance(t *testing.T) {
	r := rand.New(rand.NewSource(42))
	good := 0
	for range 60000 {
		text := sheetText(r)
		if readSlowly(text).fault.err == nil {
			good++
		}
		wantAsSlowly(t, text)
		wantAsSlowly(t, spoil(r, text))
		wantAsSlowly(t, spoil(r, spoil(r, text)))
	}
	if good < 50000 {
		t.Errorf("only %d sheets", good)
	}
}
