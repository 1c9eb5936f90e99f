package desk

import (
	"strconv"

	"larder/api"
	"larder/sheet"
)

// columns answers those of a sheet of requests.
func columns() []api.Column {
	return []api.Column{
		{Name: "id", Kind: api.CellText, Must: true},
		{Name: "what", Kind: api.CellText, Must: true},
		{Name: "code", Kind: api.CellText},
		{Name: "qty", Kind: api.CellInt},
		{Name: "hold", Kind: api.CellText},
		{Name: "ttl", Kind: api.CellInt},
		{Name: "now", Kind: api.CellInt},
	}
}

// row is what a row of such a sheet says.
type row struct {
	id, what string
	code     string
	qty      int
	hold     string
	ttl, now int
}

func rowOf(c []api.Cell) row {
	return row{c[0].Text, c[1].Text, c[2].Text, c[3].Num, c[4].Text, c[5].Num, c[6].Num}
}

// Fill asks the requests of a sheet, and answers a sheet of their replies.
func (d *Desk) Fill(text string) (string, error) {
	if d.isShut() {
		return "", nil
	}
	rows, err := sheet.Parse(text)
	if err != nil {
		return "", err
	}
	cells, err := sheet.Typed(rows, columns())
	if err != nil {
		return "", err
	}
	list, words := requestsOf(cells)
	told := [][]string{{"id", "what", "answer", "line", "now"}}
	for i, r := range d.ask(list) {
		told = append(told, []string{list[i].Id, words[i], errorWord(r.Err), digits(r.Line), digits(r.Now)})
	}
	return sheet.Print(told)
}

// requestsOf answers the requests of a sheet, one for each run of rows with the same id and word, and these words.
func requestsOf(cells [][]api.Cell) (list []api.Request, words []string) {
	for _, c := range cells {
		x := rowOf(c)
		last := len(list) - 1
		if last < 0 || list[last].Id != x.id || words[last] != x.what {
			list = append(list, api.Request{Id: x.id, Kind: kindOf(x.what), Hold: x.hold, Ttl: x.ttl, Now: x.now})
			words = append(words, x.what)
			last++
		}
		if x.code != "" {
			list[last].Lines = append(list[last].Lines, api.Line{Code: x.code, Qty: x.qty})
		}
	}
	return list, words
}

// digits answers a number for a cell, which is empty for 0.
func digits(n int) string {
	if n == 0 {
		return ""
	}
	return strconv.Itoa(n)
}
