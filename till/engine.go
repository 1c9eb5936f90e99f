package till

import (
	"slices"

	"larder/api"
	"larder/cart"
	"larder/disk"
	"larder/mend"
)

// engine runs a store from life to life, and writes down what was asked and answered.
type engine struct {
	life
	config api.Config
	start  api.State // what the first life began with
	lives  int
	moment int

	asked []asking // all requests, in the order in which they were asked
	first int      // so many of them were asked in lives that have ended
	ended []int    // the order of those lives: places in asked
}

// life is what goes with the power: the memory, and the disk that it is the owner of.
type life struct {
	*cart.Shared
	disk *disk.Disk
}

// engineOf answers an engine that goes on from what an image holds.
func engineOf(image []byte, c api.Config) (engine, api.Errno) {
	c.Codes = slices.Clone(c.Codes)
	l, s, e := revive(image, c)
	if e != api.OK {
		return engine{}, e
	}
	return engine{life: l, config: c, start: s, lives: 1}, api.OK
}

// revive answers a life that begins with what an image holds, and the state that it has then.
func revive(image []byte, c api.Config) (life, api.State, api.Errno) {
	d, e := disk.New(image, c.Sectors)
	if e != api.OK {
		return life{}, api.State{}, e
	}
	s, epoch, _, e := mend.Recover(d, c)
	if e != api.OK {
		return life{}, api.State{}, e
	}
	m, e := cart.New(d, c, s, epoch)
	return life{m, d}, s, e
}

// ask gives a handler a request, and writes it down.
func (n *engine) ask(h int, r api.Request) api.Errno {
	if n.isOver() || len(n.asked) >= api.MaxHistory {
		return api.ErrFull
	}
	if e := n.Start(h, r); e != api.OK {
		return e
	}
	n.moment++
	n.asked = append(n.asked, askingOf(h, r, n.moment))
	return api.OK
}

// pick lets a handler do its next step, and writes its reply down, if it is told there.
func (n *engine) pick(h int) bool {
	phase, _ := n.Phase(h)
	if n.isOver() || !n.Step(h) {
		return false
	}
	n.moment++
	if phase == api.PhaseReply {
		reply, _ := n.Reply(h)
		n.lastOf(h).answer(reply, n.moment)
	}
	return true
}

// run picks the handlers in turn, as long as that can do something, and answers how often.
func (n *engine) run(most int) int {
	picks := 0
	for picks < most && !n.isOver() && n.isAtWork() {
		n.pick(picks % n.config.Handlers)
		picks++
	}
	return picks
}

// crash lets the power fail, and goes on with what comes back.
func (n *engine) crash(c api.Crash) api.Errno {
	if n.isOver() {
		return api.ErrFull
	}
	image, e := n.disk.At(n.disk.Count(), c)
	if e != api.OK {
		return e
	}
	next, s, e := revive(image, n.config)
	if e != api.OK {
		return e
	}
	n.moment++
	n.cutOff(s.Lsn)
	n.life = next
	n.lives++
	return api.OK
}

// isOver says whether there are no moments left.
func (n *engine) isOver() bool { return n.moment >= api.MaxPlay }

// isAtWork says whether any handler is at work.
func (n *engine) isAtWork() bool {
	for h := range n.config.Handlers {
		if phase, _ := n.Phase(h); phase != api.PhaseIdle {
			return true
		}
	}
	return false
}

// ready answers the handlers that are at work and not blocked, rising.
func (n *engine) ready() []int {
	var l []int
	for h := range n.config.Handlers {
		if phase, _ := n.Phase(h); phase != api.PhaseIdle && n.On(h) < 0 {
			l = append(l, h)
		}
	}
	return l
}
