package mend_test

import (
	"bytes"
	"math/rand"
	"strconv"
	"testing"

	"larder/api"
	"larder/mend"
	"larder/wal"
)

// small has a log of a few sectors, so that lives are short, and slots of which a checkpoint takes several.
func small() api.Config {
	return api.Config{Codes: []string{"a", "b", "c"}, Stripes: 3, Handlers: 2, Sectors: 54, Slot: 20}
}

// epochs are those of which a word's next byte turns at the next ones, the first and the last.
var epochs = []int{1, 2, 254, 255, 256, 65534, 1<<24 - 2, 1<<32 - 3, 1<<40 - 40}

// outage is a power failure in the midst of something.
type outage api.Crash

// try does a step, and answers whether the power has failed in the midst of it.
func (s *store) try(r *rand.Rand) (x api.Crash, failed bool) {
	defer func() {
		if met := recover(); met != nil {
			x, failed = api.Crash(met.(outage)), true
		}
	}()
	s.step(r)
	return api.Crash{}, false
}

// P13.8: scripts of effects, flushes and checkpoints; the power fails behind every operation, with every choice of loose and torn writes where they are few, and goes on from what comes back at times.
func TestP13_8Scripts(t *testing.T) {
	r := rand.New(rand.NewSource(138))
	looked, effects, saves, losses, lost, between := 0, 0, 0, 0, 0, 0
	for script := range 60 {
		c := small()
		image := imageOf(t, c, epochs[script%len(epochs)], empty(c))
		if script%4 == 0 {
			image = formatted(t, c).Image()
		}
		look := func(s *store) {
			for _, x := range s.crashes(r, 3, 0, 1, 7, 8, 9, 16, 64, 120, 121, 127, 128) {
				_, got, _ := s.wantBack(s.left(x))
				looked++
				if got.Lsn > s.log.Durable() && got.Lsn < s.taken {
					between++
				}
			}
			if r.Intn(30) == 0 {
				panic(outage(drawn(r, len(s.d.Pending()))))
			}
		}
		s := raised(t, c, image, look)
		for range 160 {
			life, before := s.life, s.ledger.State().Lsn
			if x, failed := s.try(r); failed {
				s.lose(x)
				losses++
				lost += max(0, before-s.ledger.State().Lsn)
			} else if s.life > life {
				saves++
			}
		}
		effects += s.ledger.State().Lsn
	}
	t.Logf("%d looks, %d effects, %d checkpoints, %d failures that lost %d effects, %d in between", looked, effects, saves, losses, lost, between)
	if looked < 20000 || effects < 1000 || saves < 60 || losses < 60 || lost < 30 || between < 100 {
		t.Errorf("too little was looked at")
	}
}

// P13.8: one short life of everything, with every choice and every byte to tear at.
func TestP13_8EveryByte(t *testing.T) {
	for _, epoch := range []int{1, 254, 255, 65535} {
		r := rand.New(rand.NewSource(int64(epoch)))
		c := small()
		var every []int
		for i := range 129 {
			every = append(every, i)
		}
		looked := 0
		look := func(s *store) {
			for _, x := range s.crashes(r, 3, every...) {
				s.wantBack(s.left(x))
				looked++
			}
		}
		s := raised(t, c, imageOf(t, c, epoch, empty(c)), look)
		for range 2 {
			for range 16 {
				s.effect(r)
			}
			s.settle(r)
			s.save(r)
		}
		s.effect(r)
		s.settle(r)
		if looked < 2000 {
			t.Errorf("epoch %d: %d looks alone", epoch, looked)
		}
	}
}

// P13.8: many effects in one flush of many sectors, of which any may be there.
func TestP13_8ManyLooseWrites(t *testing.T) {
	r := rand.New(rand.NewSource(1380))
	c := roomy()
	kept := map[int]int{}
	for range 12 {
		s := raised(t, c, formatted(t, c).Image(), func(*store) {})
		s.fail = func(s *store) {
			for range 12 {
				_, got, _ := s.wantBack(s.left(drawn(r, len(s.d.Pending()))))
				kept[got.Lsn]++
			}
		}
		for range 40 {
			s.effect(r)
		}
		s.settle(r)
		s.save(r)
		for range 40 {
			s.effect(r)
		}
		s.settle(r)
	}
	if len(kept) < 30 {
		t.Errorf("%d different numbers of effects came back alone", len(kept))
	}
}

// within lets the power fail behind each operation of a Recover of an image, and that of what is left again, to a depth, in so many ways at most; the Recover that ends must answer the state.
func within(t *testing.T, r *rand.Rand, c api.Config, image []byte, state api.State, depth, most int) int {
	t.Helper()
	d := newDisk(t, image, c.Sectors)
	got, epoch, _, e := mend.Recover(d, c)
	if e != api.OK || !sameState(got, state) {
		t.Fatalf("Recover: %s, %d, %d; want %s", show(got), epoch, e, show(state))
	}
	if again, next, n, e := mend.Recover(newDisk(t, d.Image(), c.Sectors), c); e != api.OK || !sameState(again, state) || next != epoch+1 || n != 0 {
		t.Fatalf("Recover of a recovered disk: %s, %d, %d, %d; want %s, %d", show(again), next, n, e, show(state), epoch+1)
	}
	if depth == 0 {
		return 1
	}
	count := 1
	for n := range d.Count() + 1 {
		var list []api.Crash
		for x := range d.Choices(n) {
			x.Bytes = []int{0, 1, 7, 8, 9, 64, 120, 121, 127}[r.Intn(9)]
			list = append(list, x)
		}
		r.Shuffle(len(list), func(i, j int) { list[i], list[j] = list[j], list[i] })
		list = list[:min(len(list), most)]
		for _, x := range list {
			left, e := d.At(n, x)
			if e != api.OK {
				t.Fatalf("At: %d", e)
			}
			count += within(t, r, c, left, state, depth-1, most)
		}
	}
	return count
}

// P13.9: a recovered disk, recovered again and again, and power failures within Recover, one and several.
func TestP13_9AsOftenAsOneLikes(t *testing.T) {
	r := rand.New(rand.NewSource(139))
	count := 0
	for script := range 24 {
		c := small()
		s := raised(t, c, imageOf(t, c, epochs[script%len(epochs)], empty(c)), func(*store) {})
		for range 120 {
			s.step(r)
		}
		if len(s.d.Pending()) == 0 {
			s.effect(r)
		}
		image := s.left(drawn(r, len(s.d.Pending())))
		_, state, _ := s.wantBack(image)
		count += within(t, r, c, image, state, 1, 1000)
		if script%3 == 0 {
			count += within(t, r, c, image, state, 3, 2)
		}
		d := newDisk(t, image, c.Sectors)
		_, first, _, _ := mend.Recover(d, c)
		for n := range 5 {
			wantRecover(t, "again", d, c, state, first+1+n, 0)
		}
	}
	if count < 5000 {
		t.Errorf("%d power failures alone", count)
	}
}

// P13.9: with a torn header of the same epoch left in the slot, and a body that is half another's.
func TestP13_9OverATornCheckpoint(t *testing.T) {
	c := roomy()
	s := busy(t, c)
	image := imageOf(t, c, 2, s)
	laid(image, c, 1, stateBytes(t, empty(c)))
	d := newDisk(t, image, c.Sectors)
	logged(t, d, c, 2, s.Lsn, records(t, restock("n", line("c", 3)))...)
	to := behind(t, s, restock("n", line("c", 3)))
	body, head, _ := mend.Layout(c, 3, to)
	for n := range 128 {
		left := d.Image()
		for _, w := range body {
			copy(left[w.Sector*128:], w.Bytes)
		}
		copy(left[head.Sector*128:], head.Bytes[:n])
		// The low byte of the last word is all of it that turns: with that one the header is whole.
		epoch, count := 3, 1
		if n > 120 {
			epoch, count = 4, 0
		}
		wantRecover(t, "a header torn at "+strconv.Itoa(n), newDisk(t, left, c.Sectors), c, to, epoch, count)
	}
}

// P13.10: records of earlier lives in the log's sectors, whole and many, are told by no Scan of a later life.
func TestP13_10OldLivesAreOver(t *testing.T) {
	r := rand.New(rand.NewSource(1310))
	lefts := 0
	for script := range 20 {
		c := small()
		s := raised(t, c, imageOf(t, c, epochs[script%len(epochs)], empty(c)), func(*store) {})
		log, sectors := 2*c.Slot, c.Sectors-2*c.Slot
		lives := []int{s.life}
		for range 12 {
			for range r.Intn(30) {
				s.effect(r)
				if r.Intn(3) == 0 {
					s.settle(r)
				}
			}
			if r.Intn(2) == 0 {
				s.settle(r)
			}
			if r.Intn(3) == 0 {
				s.save(r)
				lives = append(lives, s.life)
				continue
			}
			s.lose(drawn(r, len(s.d.Pending())))
			lives = append(lives, s.life)
			for lsn := range s.ledger.State().Lsn + 2 {
				if list, n, e := wal.Scan(s.d, log, sectors, s.life, lsn); len(list) != 0 || n != 0 || e != api.OK {
					t.Fatalf("life %d behind %d: %d records, %d, %d", s.life, lsn, len(list), n, e)
				}
			}
			for _, life := range lives[:len(lives)-1] {
				// Sectors of earlier lives, the first of which is mostly overwritten.
				for n := range sectors {
					p, _ := s.d.Read(log + n)
					if _, ok := wal.Used(life, n, p); ok {
						lefts++
					}
				}
			}
		}
		for i := 1; i < len(lives); i++ {
			if lives[i] <= lives[i-1] {
				t.Fatalf("lives %v", lives)
			}
		}
	}
	if lefts < 500 {
		t.Errorf("%d sectors of earlier lives alone were left", lefts)
	}
}

// P13.10: the records of a life are taken up once: what they did is in the checkpoint behind them, and they are there still.
func TestP13_10RecordsStay(t *testing.T) {
	c := roomy()
	d := formatted(t, c)
	list := records(t, restock("1", line("a", 5)), hold("h", 9, line("a", 2)))
	logged(t, d, c, 1, 0, list...)
	s := behind(t, empty(c), restock("1", line("a", 5)), hold("h", 9, line("a", 2)))
	wantRecover(t, "two", d, c, s, 2, 2)
	old, _, _ := wal.Scan(d, 2*c.Slot, c.Sectors-2*c.Slot, 1, 0)
	if len(old) != 2 || !bytes.Equal(old[0], list[0]) || !bytes.Equal(old[1], list[1]) {
		t.Errorf("the log of life 1 holds %d records", len(old))
	}
	for _, life := range []int{2, 3, 4} {
		for lsn := range 4 {
			if l, n, _ := wal.Scan(d, 2*c.Slot, c.Sectors-2*c.Slot, life, lsn); len(l) != 0 || n != 0 {
				t.Errorf("life %d behind %d: %d records in %d sectors", life, lsn, len(l), n)
			}
		}
		wantRecover(t, "none", d, c, s, life+1, 0)
	}
}
