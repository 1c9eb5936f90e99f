package edi

import (
	"slices"
	"strconv"

	"larder/api"
)

const (
	adviceId  = "846"
	mostGoods = 1000000000000000
)

// ReadAdvice reads a stock advice; or tells the first fault, by its place within s.Segments.
func ReadAdvice(s api.Set) (api.Advice, error) {
	var r adviceReader
	if err := walk(s, adviceId, "BIA", r.take); err != nil {
		return api.Advice{}, err
	}
	return r.advice, nil
}

// BuildAdvice lays a stock advice down as a set; or tells the first fault that ReadAdvice would find in it.
func BuildAdvice(a api.Advice, control string) (api.Set, error) {
	l := []api.Segment{segment("BIA", "00", "SI", a.Number, a.Date)}
	for i, x := range a.Lines {
		l = append(l,
			segment("LIN", strconv.Itoa(i+1), qualifierOf(x.Code), x.Code),
			segment("QTY", "17", strconv.Itoa(x.OnHand), "EA"),
			segment("QTY", "33", strconv.Itoa(x.Free), "EA"))
	}
	l = append(l, segment("CTT", strconv.Itoa(len(a.Lines))))
	return built(api.Set{Id: adviceId, Control: control, Segments: l}, a, ReadAdvice, sameAdvice)
}

func sameAdvice(a, b api.Advice) bool {
	return a.Number == b.Number && a.Date == b.Date && slices.Equal(a.Lines, b.Lines)
}

// adviceReader has a line that is open till both of its quantities have come.
type adviceReader struct {
	advice  api.Advice
	line    api.AdviceLine
	counted bool // OnHand has come
}

func (r *adviceReader) take(s api.Segment) ([]string, error) {
	switch s.Tag {
	case "BIA":
		return []string{"LIN"}, each(s.Elems, word("00"), word("SI"), keep(&r.advice.Number, isNumber), keep(&r.advice.Date, isLongDay))
	case "LIN":
		return []string{"QTY"}, r.open(s.Elems)
	case "QTY":
		return r.quantity(s.Elems)
	default:
		return nil, each(s.Elems, count(len(r.advice.Lines)))
	}
}

func (r *adviceReader) open(elems []string) error {
	lines := len(r.advice.Lines)
	if err := room(lines); err != nil {
		return err
	}
	r.line, r.counted = api.AdviceLine{}, false
	return each(elems, word(strconv.Itoa(lines+1)), qualifier(elems), keep(&r.line.Code, isTrade))
}

func (r *adviceReader) quantity(elems []string) ([]string, error) {
	if !r.counted {
		r.counted = true
		return []string{"QTY"}, each(elems, word("17"), whole(&r.line.OnHand, 0, mostGoods), word("EA"))
	}
	err := each(elems, word("33"), whole(&r.line.Free, 0, mostGoods), word("EA"))
	r.advice.Lines = append(r.advice.Lines, r.line)
	return []string{"LIN", "CTT"}, err
}
