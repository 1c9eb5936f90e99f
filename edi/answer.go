package edi

import (
	"errors"

	"larder/api"
)

// Answer makes the interchange that acknowledges i, with a set for each group of i that is not one of acknowledgements; or tells the first fault of i, or of what it would answer.
func Answer(i api.Interchange, control int, date, time string) (api.Interchange, error) {
	if _, err := Print(i); err != nil {
		return api.Interchange{}, err
	}
	var sets []api.Set
	for _, g := range i.Groups {
		if !isAnswered(g.Kind) {
			continue
		}
		if len(g.Sets) > api.MaxDocLines {
			return api.Interchange{}, &Fault{Err: ErrDocument}
		}
		sets = append(sets, layAck(ackOf(g), filled(len(sets)+1, 4)))
	}
	if len(sets) == 0 {
		return api.Interchange{}, &Fault{Err: ErrDocument}
	}
	group := api.Group{Kind: "FA", From: i.To, To: i.From, Date: "20" + date, Time: time, Control: control, Sets: sets}
	_, answer, err := settle(api.Interchange{From: i.To, To: i.From, Date: date, Time: time, Control: control, Test: i.Test, Groups: []api.Group{group}})
	return answer, err
}

// ackOf says of each set of a group whether it is taken as the document that its Id says.
func ackOf(g api.Group) api.Ack {
	a := api.Ack{Kind: g.Kind, Control: g.Control}
	for _, s := range g.Sets {
		x := api.AckSet{Id: s.Id, Control: s.Control, Ok: true}
		var f *Fault
		if errors.As(refusal(s), &f) {
			x.Ok, x.Segment, x.Element = false, f.Segment, f.Element
		}
		a.Sets = append(a.Sets, x)
	}
	return a
}

// refusal answers why a set is not taken, or nothing.
func refusal(s api.Set) error {
	var err error
	switch s.Id {
	case orderId:
		_, err = ReadOrder(s)
	case adviceId:
		_, err = ReadAdvice(s)
	}
	return err
}
