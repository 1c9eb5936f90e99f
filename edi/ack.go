package edi

import (
	"slices"
	"strconv"

	"larder/api"
)

const (
	ackId     = "997"
	firstOwn  = 2 // what a set's first own segment is counted as, since its ST is 1
	mostPlace = 99999
)

// ReadAck reads an acknowledgement; or tells the first fault, by its place within s.Segments.
func ReadAck(s api.Set) (api.Ack, error) {
	var r ackReader
	if err := walk(s, ackId, "AK1", r.take); err != nil {
		return api.Ack{}, err
	}
	return r.ack, nil
}

// BuildAck lays an acknowledgement down as a set; or tells the first fault that ReadAck would find in it.
func BuildAck(a api.Ack, control string) (api.Set, error) {
	return built(layAck(a, control), a, ReadAck, sameAck)
}

func layAck(a api.Ack, control string) api.Set {
	l := []api.Segment{segment("AK1", a.Kind, strconv.Itoa(a.Control))}
	for _, x := range a.Sets {
		l = append(l, segment("AK2", x.Id, x.Control))
		if !x.Ok {
			l = append(l, segment("AK3", strconv.Itoa(x.Segment+firstOwn), strconv.Itoa(x.Element)))
		}
		l = append(l, segment("AK5", setLetter(x.Ok)))
	}
	sets, accepted := strconv.Itoa(len(a.Sets)), countAccepted(a.Sets)
	l = append(l, segment("AK9", groupLetter(len(a.Sets), accepted), sets, sets, strconv.Itoa(accepted)))
	return api.Set{Id: ackId, Control: control, Segments: l}
}

func sameAck(a, b api.Ack) bool {
	return a.Kind == b.Kind && a.Control == b.Control && slices.Equal(a.Sets, b.Sets)
}

func setLetter(ok bool) string {
	if ok {
		return "A"
	}
	return "R"
}

func groupLetter(sets, accepted int) string {
	switch accepted {
	case sets:
		return "A"
	case 0:
		return "R"
	}
	return "P"
}

func countAccepted(sets []api.AckSet) int {
	n := 0
	for _, x := range sets {
		if x.Ok {
			n++
		}
	}
	return n
}

// ackReader has a set that is open till its AK5 has come.
type ackReader struct {
	ack api.Ack
	set api.AckSet
}

func (r *ackReader) take(s api.Segment) ([]string, error) {
	switch s.Tag {
	case "AK1":
		return []string{"AK2"}, each(s.Elems, keep(&r.ack.Kind, isAnswered), whole(&r.ack.Control, 1, mostControl))
	case "AK2":
		return []string{"AK3", "AK5"}, r.open(s.Elems)
	case "AK3":
		return []string{"AK5"}, r.refuse(s.Elems)
	case "AK5":
		r.ack.Sets = append(r.ack.Sets, r.set)
		return []string{"AK2", "AK9"}, each(s.Elems, word(setLetter(r.set.Ok)))
	default:
		sets, accepted := len(r.ack.Sets), countAccepted(r.ack.Sets)
		return nil, each(s.Elems, is(groupLetter(sets, accepted), ErrCount), count(sets), count(sets), count(accepted))
	}
}

// isAnswered says whether groups of a kind are acknowledged.
func isAnswered(kind string) bool { return isKind(kind) && idOf(kind) != ackId }

func (r *ackReader) open(elems []string) error {
	if err := room(len(r.ack.Sets)); err != nil {
		return err
	}
	r.set = api.AckSet{Id: idOf(r.ack.Kind), Ok: true}
	return each(elems, word(r.set.Id), keep(&r.set.Control, r.isNew))
}

func (r *ackReader) isNew(control string) bool {
	came := func(x api.AckSet) bool { return x.Control == control }
	return isSetControl(control) && !slices.ContainsFunc(r.ack.Sets, came)
}

func (r *ackReader) refuse(elems []string) error {
	place := 0
	err := each(elems, whole(&place, firstOwn, mostPlace), whole(&r.set.Element, 0, mostPlace))
	r.set.Ok, r.set.Segment = false, place-firstOwn
	return err
}
