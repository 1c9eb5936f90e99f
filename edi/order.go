package edi

import (
	"slices"
	"strconv"

	"larder/api"
)

const orderId = "850"

// ReadOrder reads a purchase order; or tells the first fault, by its place within s.Segments.
func ReadOrder(s api.Set) (api.Order, error) {
	var r orderReader
	if err := walk(s, orderId, "BEG", r.take); err != nil {
		return api.Order{}, err
	}
	return r.order, nil
}

// BuildOrder lays a purchase order down as a set; or tells the first fault that ReadOrder would find in it.
func BuildOrder(o api.Order, control string) (api.Set, error) {
	l, sum := []api.Segment{segment("BEG", "00", "SA", o.Number, "", o.Date)}, 0
	for i, x := range o.Lines {
		l = append(l, segment("PO1", strconv.Itoa(i+1), strconv.Itoa(x.Qty), "EA", shownCents(x.Cents), "", qualifierOf(x.Code), x.Code))
		sum += x.Qty
	}
	l = append(l, segment("CTT", strconv.Itoa(len(o.Lines)), strconv.Itoa(sum)))
	return built(api.Set{Id: orderId, Control: control, Segments: l}, o, ReadOrder, sameOrder)
}

func sameOrder(a, b api.Order) bool {
	return a.Number == b.Number && a.Date == b.Date && slices.Equal(a.Lines, b.Lines)
}

type orderReader struct {
	order api.Order
	sum   int
}

func (r *orderReader) take(s api.Segment) ([]string, error) {
	o := &r.order
	switch s.Tag {
	case "BEG":
		return []string{"PO1"}, each(s.Elems, word("00"), word("SA"), keep(&o.Number, isNumber), word(""), keep(&o.Date, isLongDay))
	case "PO1":
		return []string{"PO1", "CTT"}, r.line(s.Elems)
	default:
		return nil, each(s.Elems, count(len(o.Lines)), count(r.sum))
	}
}

func (r *orderReader) line(elems []string) error {
	lines := len(r.order.Lines)
	if err := room(lines); err != nil {
		return err
	}
	var l api.OrderLine
	err := each(elems, word(strconv.Itoa(lines+1)), whole(&l.Qty, 1, mostControl), word("EA"), cents(&l.Cents), word(""), qualifier(elems), keep(&l.Code, isTrade))
	r.order.Lines = append(r.order.Lines, l)
	r.sum += l.Qty
	return err
}
