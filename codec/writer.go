package codec

import (
	"larder/api"
	"larder/frame"
)

// writer carries fields into bytes, of which there may be most; it reads what it is pointed to and never writes there, as that is the caller's.
type writer struct {
	bytes []byte
	most  int
}

func (w *writer) key(k byte) {
	w.put([]byte{k})
}

func (w *writer) whole(n *int) {
	w.put(frame.PutInt(nil, *n))
}

func (w *writer) text(s *string) {
	w.room(len(*s))
	w.put(frame.PutText(nil, *s))
}

func (w *writer) count(n int) int {
	w.put(frame.PutUint(nil, uint64(n)))
	return n
}

func (w *writer) put(b []byte) {
	w.room(len(b))
	w.bytes = append(w.bytes, b...)
}

// room gives up at once if so many bytes more are too many, so that what is far too long is neither copied nor gone over.
func (w *writer) room(more int) {
	if more > w.most-len(w.bytes) {
		panic(fault{err: api.ErrLong})
	}
}
