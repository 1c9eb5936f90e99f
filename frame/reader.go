package frame

import "larder/api"

// Reader reads a row of frames whose bytes come in pieces. Of all that came it keeps only the frame that has begun, and the first fault.
type Reader struct {
	next    func(c byte) // what it does with the next byte
	ahead   int          // how many bytes came ahead of the frame that has begun
	begun   []byte       // the bytes of that frame
	missing int          // how many more it needs, once its length is known
	loads   [][]byte     // what this Feed is to tell
	err     api.Errno
	at      int
	closed  bool
}

// NewReader answers a Reader to which nothing has come.
func NewReader() *Reader { return &Reader{} }

// Feed takes the bytes p behind those that came ahead of them, and answers the loads of the frames that have ended since; if there is a fault, also its error and its place in all that came.
func (r *Reader) Feed(p []byte) ([][]byte, api.Errno, int) {
	if r == nil {
		return nil, api.OK, 0
	}
	if r.closed {
		return nil, api.ErrDone, 0
	}
	if r.next == nil {
		r.next = r.takeMark
	}
	for i := 0; i < len(p) && r.err == api.OK; i++ {
		r.next(p[i])
	}
	loads := r.loads
	r.loads = nil
	return loads, r.err, r.at
}

// Close says that nothing more comes, and answers the fault that was told; else ErrShort behind all that came, if a frame has begun and not ended.
func (r *Reader) Close() (api.Errno, int) {
	if r == nil {
		return api.OK, 0
	}
	if r.closed {
		return api.ErrDone, 0
	}
	e, at := r.err, r.at
	if len(r.begun) > 0 {
		e, at = api.ErrShort, r.ahead+len(r.begun)
	}
	*r = Reader{closed: true}
	return e, at
}

func (r *Reader) takeMark(c byte) {
	if c != mark {
		r.fail(api.ErrMark, 0)
		return
	}
	r.begun = append(r.begun, c)
	r.next = r.takeLength
}

func (r *Reader) takeLength(c byte) {
	r.begun = append(r.begun, c)
	length, place, e := Uint(r.begun[1:])
	switch {
	case e == api.ErrShort:
		return
	case e != api.OK:
		r.fail(e, 1+place)
	case length > api.MaxFrame:
		r.fail(api.ErrLength, 1)
	default:
		r.missing = int(length) + sumBytes
		r.next = r.takeRest
	}
}

func (r *Reader) takeRest(c byte) {
	r.begun = append(r.begun, c)
	r.missing--
	if r.missing > 0 {
		return
	}
	load, size, e, place := Unseal(r.begun)
	if e != api.OK {
		r.fail(e, place)
		return
	}
	r.loads = append(r.loads, load)
	r.ahead += size
	r.begun = nil
	r.next = r.takeMark
}

// fail takes the place in the frame that has begun.
func (r *Reader) fail(e api.Errno, place int) {
	r.err, r.at = e, r.ahead+place
	r.begun = nil
}
