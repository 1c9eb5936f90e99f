package disk

import (
	"bytes"
	"iter"

	"larder/api"
)

// At answers the image that a power failure behind the first n operations would leave, if it spared of the loose writes what c says.
func (d *Disk) At(n int, c api.Crash) ([]byte, api.Errno) {
	if d == nil {
		return nil, api.OK
	}
	if n < 0 || n > len(d.done) || c.Bytes < 0 || c.Bytes > api.SectorBytes {
		return nil, api.ErrArg
	}
	safe, loose := d.split(n)
	image := bytes.Clone(d.first)
	for i := range safe {
		safe[i].lay(image, api.SectorBytes)
	}
	for i, size := range spared(c, len(loose)) {
		loose[i].lay(image, size)
	}
	return image, api.OK
}

// Choices goes over choices for the power failure behind the first n operations: every subset of the loose writes, and every subset with one of the others torn in the middle.
func (d *Disk) Choices(n int) iter.Seq[api.Crash] {
	if d == nil || n < 0 || n > len(d.done) {
		return nothing
	}
	_, loose := d.split(n)
	// The closure keeps how many there are, not the disk: writes that come later change nothing in it.
	k := len(loose)
	if k > api.MaxChoices {
		return nothing
	}
	return func(yield func(api.Crash) bool) {
		_ = wholeChoices(k, yield) && tornChoices(k, yield)
	}
}

func nothing(func(api.Crash) bool) {}

// wholeChoices yields the choices that tear nothing, and says whether more are wanted.
func wholeChoices(k int, yield func(api.Crash) bool) bool {
	for subset := range 1 << k {
		if !yield(api.Crash{Keep: places(subset), Torn: -1}) {
			return false
		}
	}
	return true
}

// tornChoices yields the choices that tear a write, and says whether more are wanted.
func tornChoices(k int, yield func(api.Crash) bool) bool {
	for i := range k {
		for subset := range 1 << k {
			if subset>>i&1 == 1 {
				continue
			}
			if !yield(api.Crash{Keep: places(subset), Torn: i, Bytes: api.SectorBytes / 2}) {
				return false
			}
		}
	}
	return true
}

// places answers which binary digits of a number are 1, rising.
func places(subset int) []int {
	var list []int
	for i := 0; subset>>i > 0; i++ {
		if subset>>i&1 == 1 {
			list = append(list, i)
		}
	}
	return list
}

// spared answers for each of k loose writes how many of its bytes a power failure leaves.
func spared(c api.Crash, k int) []int {
	sizes := make([]int, k)
	if c.Torn >= 0 && c.Torn < k {
		sizes[c.Torn] = c.Bytes
	}
	// Behind Torn: a write that is kept is whole, torn or not.
	for _, i := range c.Keep {
		if i >= 0 && i < k {
			sizes[i] = api.SectorBytes
		}
	}
	return sizes
}
