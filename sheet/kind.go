package sheet

import (
	"strconv"
	"strings"

	"larder/api"
	"larder/cal"
	"larder/gtin"
)

// kind says how the cells of one kind are read from texts that are not empty, and how they are shown. What a cell that is none of the kind is shown as has no meaning.
type kind struct {
	read func(text string) (api.Cell, error)
	show func(cell api.Cell) string
}

func kinds() [api.CellYes + 1]kind {
	return [...]kind{
		api.CellText:  {readText, showText},
		api.CellInt:   {readInt, showInt},
		api.CellCents: {readCents, showCents},
		api.CellDate:  {readDate, showDate},
		api.CellCode:  {readCode, showCode},
		api.CellYes:   {readYes, showYes},
	}
}

func readText(text string) (api.Cell, error) {
	return api.Cell{Kind: api.CellText, Text: strings.Clone(text)}, nil
}

func showText(cell api.Cell) string { return cell.Text }

func readInt(text string) (api.Cell, error) {
	digits, negative := strings.CutPrefix(text, "-")
	n, err := strconv.Atoi(text)
	if err != nil || !isWhole(digits) || negative && n == 0 {
		return api.Cell{}, ErrNumber
	}
	return api.Cell{Kind: api.CellInt, Num: n}, nil
}

func showInt(cell api.Cell) string { return strconv.Itoa(cell.Num) }

func readCents(text string) (api.Cell, error) {
	number, negative := strings.CutPrefix(text, "-")
	whole, part, dotted := strings.Cut(number, ".")
	if !dotted {
		part = "00"
	}
	n, err := strconv.Atoi(whole + part)
	if err != nil || !isWhole(whole) || len(part) != 2 || n > api.MaxCents || negative && n == 0 {
		return api.Cell{}, ErrCents
	}
	if negative {
		n = -n
	}
	return api.Cell{Kind: api.CellCents, Num: n}, nil
}

func showCents(cell api.Cell) string {
	sign, n := "", uint64(cell.Num)
	if cell.Num < 0 {
		sign, n = "-", -n // as a number without sign even the lowest int has its other side
	}
	part := strconv.FormatUint(100+n%100, 10)[1:]
	return sign + strconv.FormatUint(n/100, 10) + "." + part
}

func readDate(text string) (api.Cell, error) {
	d, e, _ := cal.ParseDate(text)
	if e != api.OK {
		return api.Cell{}, &Why{Kind: ErrDate, Code: e}
	}
	n, _ := cal.Days(d)
	return api.Cell{Kind: api.CellDate, Num: n}, nil
}

func showDate(cell api.Cell) string {
	d, e := cal.Of(cell.Num)
	if e != api.OK {
		return ""
	}
	text, _ := cal.PrintDate(d, api.DateDay)
	return text
}

func readCode(text string) (api.Cell, error) {
	code, e := gtin.Normal(text)
	if e != api.OK {
		return api.Cell{}, &Why{Kind: ErrCode, Code: e}
	}
	return api.Cell{Kind: api.CellCode, Text: code}, nil
}

func showCode(cell api.Cell) string {
	text, _ := gtin.Short(cell.Text)
	return text
}

func readYes(text string) (api.Cell, error) {
	switch text {
	case "yes":
		return api.Cell{Kind: api.CellYes, Num: 1}, nil
	case "no":
		return api.Cell{Kind: api.CellYes}, nil
	}
	return api.Cell{}, ErrYes
}

func showYes(cell api.Cell) string {
	if cell.Num == 1 {
		return "yes"
	}
	return "no"
}

// isWhole says whether digits are a number's one form, without a sign.
func isWhole(digits string) bool {
	for i := range len(digits) {
		if digits[i] < '0' || digits[i] > '9' {
			return false
		}
	}
	return digits == "0" || digits != "" && digits[0] != '0'
}
