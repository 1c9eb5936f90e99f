package till

import (
	"slices"

	"larder/api"
)

func copiedRequest(r api.Request) api.Request {
	r.Lines = slices.Clone(r.Lines)
	return r
}

func copiedOp(o api.Op) api.Op {
	o.Request = copiedRequest(o.Request)
	o.Reply.Levels = slices.Clone(o.Reply.Levels)
	return o
}

func copiedState(s api.State) api.State {
	s.Levels = slices.Clone(s.Levels)
	s.Holds = slices.Clone(s.Holds)
	for i := range s.Holds {
		s.Holds[i].Lines = slices.Clone(s.Holds[i].Lines)
	}
	s.Done = slices.Clone(s.Done)
	for i := range s.Done {
		s.Done[i].Request = copiedRequest(s.Done[i].Request)
	}
	return s
}
