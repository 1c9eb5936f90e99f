package codec

import (
	"larder/api"
	"larder/frame"
)

// reader carries fields out of bytes, from the left; a text or a list may have most bytes or elements.
type reader struct {
	bytes []byte
	at    int
	most  int
}

func newReader(b []byte, most int) *reader {
	if len(b) > most {
		panic(fault{err: api.ErrLong})
	}
	return &reader{bytes: b, most: most}
}

func (r *reader) key(k byte) {
	if len(r.bytes) == 0 {
		panic(fault{err: api.ErrShort})
	}
	if r.bytes[0] != k {
		panic(fault{err: api.ErrKey})
	}
	r.at = 1
}

func (r *reader) whole(n *int) {
	read, took, e := frame.Int(r.rest())
	r.step(took, e)
	*n = read
}

func (r *reader) text(s *string) {
	read, took, e := frame.Text(r.rest(), r.most)
	r.step(took, e)
	*s = read
}

func (r *reader) count(int) int {
	n, took, e := frame.Uint(r.rest())
	if n > uint64(r.most) {
		took, e = 0, api.ErrCount
	}
	r.step(took, e)
	return int(n)
}

// end gives up if anything stands behind the last field.
func (r *reader) end() {
	if r.at < len(r.bytes) {
		panic(fault{err: api.ErrTail, place: r.at})
	}
}

func (r *reader) rest() []byte {
	return r.bytes[r.at:]
}

// step goes on behind a field that took so many bytes, or gives up at the place in it that took tells.
func (r *reader) step(took int, e api.Errno) {
	if e != api.OK {
		panic(fault{err: e, place: r.at + took})
	}
	r.at += took
}
