package slots_test

import (
	"math"
	"math/rand"
	"slices"
	"testing"

	"vivarium/api"
	"vivarium/slots"
)

const lastGen = 1000000

func at(slot, gen int) api.Handle { return api.Handle{Slot: slot, Gen: gen} }

// oddNumbers are the numbers at which a mistake with signs or bounds shows.
func oddNumbers() []int {
	return []int{
		math.MinInt, math.MinInt + 1, -lastGen, -61, -60, -2, -1, 0, 1, 2, 59, 60, 61,
		lastGen - 1, lastGen, lastGen + 1, 1 << 32, math.MaxInt - 1, math.MaxInt,
	}
}

func checkTake(t *testing.T, s *slots.Slots, want api.Handle, wantErr api.Errno) {
	t.Helper()
	if h, e := s.Take(); h != want || e != wantErr {
		t.Errorf("Take() = %v, %d; want %v, %d", h, e, want, wantErr)
	}
}

func checkFree(t *testing.T, s *slots.Slots, h api.Handle, want api.Errno) {
	t.Helper()
	if e := s.Free(h); e != want {
		t.Errorf("Free(%v) = %d; want %d", h, e, want)
	}
}

// checkState compares all that can be seen of the slots.
func checkState(t *testing.T, s *slots.Slots, gens []int, all ...api.Handle) {
	t.Helper()
	if l := s.Gens(); !slices.Equal(l, gens) {
		t.Errorf("Gens() = %v; want %v", l, gens)
	}
	if l := s.All(); !slices.Equal(l, all) {
		t.Errorf("All() = %v; want %v", l, all)
	}
	for i := -1; i <= len(gens); i++ {
		for g := range 4 {
			h := at(i, g)
			if s.Live(h) != slices.Contains(all, h) {
				t.Errorf("Live(%v) = %t, but All() should be %v", h, s.Live(h), all)
			}
		}
	}
	for _, h := range all {
		if !s.Live(h) {
			t.Errorf("Live(%v) is false", h)
		}
	}
}

// load returns slots that must be loadable.
func load(t *testing.T, gens []int, live ...int) *slots.Slots {
	t.Helper()
	s, e := slots.Load(gens, live)
	if s == nil || e != api.OK {
		t.Fatalf("Load(%v, %v) = %v, %d", gens, live, s, e)
	}
	return s
}

func checkLoadError(t *testing.T, gens, live []int, want api.Errno) {
	t.Helper()
	if s, e := slots.Load(gens, live); s != nil || e != want {
		t.Errorf("Load(%v, %v) = %v, %d; want nil, %d", gens, live, s, e, want)
	}
}

// upTo returns the numbers from 0 to n - 1.
func upTo(n int) []int {
	l := make([]int, n)
	for i := range l {
		l[i] = i
	}
	return l
}

func TestP5NewHasNoSlots(t *testing.T) {
	checkState(t, slots.New(), nil)
	checkState(t, &slots.Slots{}, nil)
	checkFree(t, slots.New(), at(0, 0), api.ErrDead)
	checkTake(t, &slots.Slots{}, at(0, 0), api.OK)
}

func TestP5TakeAddsSlots(t *testing.T) {
	s := slots.New()
	var all []api.Handle
	for i := range api.MaxSlots {
		checkTake(t, s, at(i, 0), api.OK)
		all = append(all, at(i, 0))
		checkState(t, s, make([]int, i+1), all...)
	}
}

func TestP5TakeWithoutAnAvailableSlot(t *testing.T) {
	s := load(t, make([]int, 60), upTo(60)...)
	all := s.All()
	checkTake(t, s, api.Handle{}, api.ErrLarge)
	checkTake(t, s, api.Handle{}, api.ErrLarge)
	checkState(t, s, make([]int, 60), all...)
	checkFree(t, s, at(59, 0), api.OK)
	checkTake(t, s, at(59, 1), api.OK)
	checkTake(t, s, api.Handle{}, api.ErrLarge)
}

func TestP5TakeUsesTheLowestSlot(t *testing.T) {
	s := load(t, []int{0, 3, 0, 2, 0}, 0, 2, 3, 4)
	checkFree(t, s, at(4, 0), api.OK)
	checkFree(t, s, at(2, 0), api.OK)
	checkTake(t, s, at(1, 3), api.OK)
	checkTake(t, s, at(2, 1), api.OK)
	checkTake(t, s, at(4, 1), api.OK)
	checkTake(t, s, at(5, 0), api.OK)
	checkState(t, s, []int{0, 3, 1, 2, 1, 0}, at(0, 0), at(1, 3), at(2, 1), at(3, 2), at(4, 1), at(5, 0))
}

func TestP5TakeSkipsTheLastGeneration(t *testing.T) {
	s := load(t, []int{lastGen, lastGen - 1, lastGen}, 1)
	checkTake(t, s, at(3, 0), api.OK)
	checkFree(t, s, at(1, lastGen-1), api.OK)
	checkState(t, s, []int{lastGen, lastGen, lastGen, 0}, at(3, 0))
	checkTake(t, s, at(4, 0), api.OK)
	checkFree(t, s, at(1, lastGen), api.ErrDead)

	s = load(t, []int{lastGen - 1})
	checkTake(t, s, at(0, lastGen-1), api.OK)

	s = load(t, slices.Repeat([]int{lastGen}, 60))
	checkTake(t, s, api.Handle{}, api.ErrLarge)
	checkState(t, s, slices.Repeat([]int{lastGen}, 60))

	s = load(t, slices.Repeat([]int{lastGen}, 59))
	checkTake(t, s, at(59, 0), api.OK)
	checkTake(t, s, api.Handle{}, api.ErrLarge)
}

func TestP5ASlotIsUsedAMillionTimes(t *testing.T) {
	s := slots.New()
	for g := range lastGen {
		h, e := s.Take()
		if h != at(0, g) || e != api.OK || s.Free(h) != api.OK || s.Live(h) {
			t.Fatalf("generation %d: %v, %d", g, h, e)
		}
	}
	checkState(t, s, []int{lastGen})
	checkTake(t, s, at(1, 0), api.OK)
}

func TestP5Free(t *testing.T) {
	s := load(t, []int{0, 0, 0}, 0, 1, 2)
	checkFree(t, s, at(1, 0), api.OK)
	checkState(t, s, []int{0, 1, 0}, at(0, 0), at(2, 0))
	checkFree(t, s, at(1, 0), api.ErrDead)
	checkFree(t, s, at(1, 1), api.ErrDead)
	checkState(t, s, []int{0, 1, 0}, at(0, 0), at(2, 0))
	checkTake(t, s, at(1, 1), api.OK)
	checkFree(t, s, at(1, 0), api.ErrDead)
	checkFree(t, s, at(1, 1), api.OK)
	checkState(t, s, []int{0, 2, 0}, at(0, 0), at(2, 0))
}

func TestP5DeadHandles(t *testing.T) {
	gens := []int{0, 1, 59, lastGen - 1, lastGen}
	all := []api.Handle{at(0, 0), at(2, 59), at(3, lastGen-1)}
	s := load(t, gens, 0, 2, 3)
	for _, i := range append(oddNumbers(), upTo(6)...) {
		for _, g := range oddNumbers() {
			h := at(i, g)
			if slices.Contains(all, h) {
				continue
			}
			if s.Live(h) {
				t.Errorf("Live(%v) is true", h)
			}
			checkFree(t, s, h, api.ErrDead)
		}
	}
	checkState(t, s, gens, all...)
}

// model follows the words of the chapter: a slot is live or not, and has a generation.
type model struct {
	live map[int]bool
	gens []int
}

func (m *model) take() (api.Handle, api.Errno) {
	for i, g := range m.gens {
		if !m.live[i] && g < lastGen {
			m.live[i] = true
			return at(i, g), api.OK
		}
	}
	if len(m.gens) == 60 {
		return api.Handle{}, api.ErrLarge
	}
	m.gens = append(m.gens, 0)
	m.live[len(m.gens)-1] = true
	return at(len(m.gens)-1, 0), api.OK
}

func (m *model) free(h api.Handle) api.Errno {
	if !m.live[h.Slot] || m.gens[h.Slot] != h.Gen {
		return api.ErrDead
	}
	delete(m.live, h.Slot)
	m.gens[h.Slot]++
	return api.OK
}

func (m *model) all() []api.Handle {
	var l []api.Handle
	for i, g := range m.gens {
		if m.live[i] {
			l = append(l, at(i, g))
		}
	}
	return l
}

func TestP5LikeAModel(t *testing.T) {
	for seed := range int64(40) {
		r := rand.New(rand.NewSource(seed))
		gens := make([]int, r.Intn(61))
		m := &model{map[int]bool{}, gens}
		for i := range gens {
			gens[i] = []int{0, 7, lastGen - 2, lastGen - 1, lastGen}[r.Intn(5)]
			if gens[i] < lastGen && r.Intn(2) == 0 {
				m.live[i] = true
			}
		}
		var live []int
		for i := range m.live {
			live = append(live, i)
		}
		s := load(t, slices.Clone(gens), live...)
		issued := m.all()
		for range 300 {
			if r.Intn(5) < 3 {
				h, e := m.take()
				checkTake(t, s, h, e)
				if e == api.OK && slices.Contains(issued, h) {
					t.Errorf("the handle %v is issued twice", h)
				}
				issued = append(issued, h)
			} else if len(issued) > 0 {
				h := issued[r.Intn(len(issued))]
				checkFree(t, s, h, m.free(h))
			}
			checkState(t, s, m.gens, m.all()...)
		}
	}
}

func TestP6Load(t *testing.T) {
	checkState(t, load(t, nil), nil)
	checkState(t, load(t, []int{}, []int{}...), nil)
	checkState(t, load(t, []int{0, 1, 2}), []int{0, 1, 2})
	checkState(t, load(t, []int{0, 1, 2}, 2, 0), []int{0, 1, 2}, at(0, 0), at(2, 2))
	checkState(t, load(t, []int{lastGen, lastGen - 1}, 1), []int{lastGen, lastGen - 1}, at(1, lastGen-1))
	checkState(t, load(t, make([]int, 60), 59, 0), make([]int, 60), at(0, 0), at(59, 0))

	backwards := upTo(60)
	slices.Reverse(backwards)
	s := load(t, upTo(60), backwards...)
	for i, h := range s.All() {
		if h != at(i, i) {
			t.Errorf("handle %d of All() is %v", i, h)
		}
	}
}

func TestP6LoadContinues(t *testing.T) {
	s := slots.New()
	for range 5 {
		s.Take()
	}
	s.Free(at(3, 0))
	s.Free(at(1, 0))
	s.Take()
	s.Free(at(1, 1))
	var live []int
	for _, h := range s.All() {
		live = append(live, h.Slot)
	}
	back := load(t, s.Gens(), live...)
	for range 60 {
		checkState(t, back, s.Gens(), s.All()...)
		h, e := s.Take()
		checkTake(t, back, h, e)
	}
}

func TestP6LoadErrors(t *testing.T) {
	checkLoadError(t, make([]int, 61), nil, api.ErrLarge)
	checkLoadError(t, make([]int, 100000), nil, api.ErrLarge)
	for _, n := range oddNumbers() {
		if n < 0 || n > lastGen {
			checkLoadError(t, []int{n}, nil, api.ErrArg)
			checkLoadError(t, []int{0, 1, n}, []int{0}, api.ErrArg)
		}
		if n < 0 || n > 2 {
			checkLoadError(t, []int{0, 1, 2}, []int{n}, api.ErrNone)
			checkLoadError(t, []int{0, 1, 2}, []int{0, 1, n}, api.ErrNone)
		}
	}
	checkLoadError(t, nil, []int{0}, api.ErrNone)
	checkLoadError(t, make([]int, 60), []int{60}, api.ErrNone)
	checkLoadError(t, []int{0}, []int{0, 0}, api.ErrTwice)
	checkLoadError(t, []int{0, 1, 2}, []int{2, 0, 2}, api.ErrTwice)
	checkLoadError(t, make([]int, 60), append(upTo(60), 59), api.ErrTwice)
	checkLoadError(t, []int{0}, make([]int, 1000000), api.ErrTwice)
	checkLoadError(t, []int{lastGen}, []int{0}, api.ErrArg)
	checkLoadError(t, []int{0, lastGen, 1}, []int{0, 2, 1}, api.ErrArg)
}

func TestP6LoadErrorOrder(t *testing.T) {
	tooMany := append(make([]int, 60), -1)
	checkLoadError(t, tooMany, []int{99, 99}, api.ErrLarge)
	checkLoadError(t, slices.Repeat([]int{lastGen + 1}, 61), nil, api.ErrLarge)
	// A bad generation precedes all errors of live.
	checkLoadError(t, []int{0, -1}, []int{7}, api.ErrArg)
	checkLoadError(t, []int{0, lastGen + 1}, []int{0, 0}, api.ErrArg)
	// A number of no slot precedes a repetition, wherever they stand.
	checkLoadError(t, []int{0, 0}, []int{1, 1, 2}, api.ErrNone)
	checkLoadError(t, []int{0, 0}, []int{2, 1, 1}, api.ErrNone)
	checkLoadError(t, []int{0, 0}, []int{-1, -1}, api.ErrNone)
	// Both precede a live slot of the last generation.
	checkLoadError(t, []int{lastGen, 0}, []int{0, 2}, api.ErrNone)
	checkLoadError(t, []int{lastGen, 0}, []int{0, 1, 1}, api.ErrTwice)
	checkLoadError(t, []int{lastGen, 0}, []int{0, 0}, api.ErrTwice)
}

// A panic in any of these calls fails the test.
func TestP1NoPanic(t *testing.T) {
	for _, a := range oddNumbers() {
		for _, b := range oddNumbers() {
			s := slots.New()
			for range 2 {
				s.Live(at(a, b))
				s.Free(at(a, b))
				s.All()
				s.Gens()
				s.Take()
			}
			slots.Load([]int{a, b}, []int{b, a})
			slots.Load([]int{a}, []int{b})
			slots.Load([]int{0, 1, 2}, []int{a, b})
		}
	}
}

func TestP2LoadLeavesItsArguments(t *testing.T) {
	for _, c := range []struct{ gens, live []int }{
		{[]int{3, 0, 2}, []int{2, 0}},
		{[]int{3, -1, 2}, []int{2, 0}},
		{[]int{3, 0, 2}, []int{2, 2}},
		{[]int{3, 0, 2}, []int{2, 9}},
		{[]int{3, 0, lastGen}, []int{2, 0}},
	} {
		gens := append(slices.Clone(c.gens), 91, 92, 93)
		live := append(slices.Clone(c.live), 94, 95, 96)
		wantGens, wantLive := slices.Clone(gens), slices.Clone(live)
		s, e := slots.Load(gens[:len(c.gens)], live[:len(c.live)])
		if e == api.OK {
			s.Take()
			s.Take()
			s.Free(at(0, 3))
		}
		if !slices.Equal(gens, wantGens) || !slices.Equal(live, wantLive) {
			t.Errorf("Load(%v, %v) or a later call has changed its arguments: %v, %v", c.gens, c.live, gens, live)
		}
	}
}

func TestP2LoadDoesNotRetainItsArguments(t *testing.T) {
	gens, live := []int{3, 0, 2}, []int{2, 0}
	s := load(t, gens, live...)
	gens[0], gens[1], live[0], live[1] = 9, 9, 1, 1
	checkState(t, s, []int{3, 0, 2}, at(0, 3), at(2, 2))
}

func TestP2ResultsAreNew(t *testing.T) {
	s := load(t, []int{3, 0, 2, 1}, 0, 2)
	for range 2 {
		gens, all := s.Gens(), s.All()
		otherGens, otherAll := s.Gens(), s.All()
		gens, all = gens[:cap(gens)], all[:cap(all)]
		for i := range gens {
			gens[i] = 77
		}
		for i := range all {
			all[i] = at(77, 77)
		}
		if slices.Contains(otherGens[:cap(otherGens)], 77) || slices.Contains(otherAll[:cap(otherAll)], at(77, 77)) {
			t.Error("two results share memory")
		}
		checkState(t, s, []int{3, 0, 2, 1}, at(0, 3), at(2, 2))
	}
	checkTake(t, s, at(1, 0), api.OK)
	checkTake(t, s, at(3, 1), api.OK)
	checkTake(t, s, at(4, 0), api.OK)
}

// A result is a copy of what was there, not a view of what is there.
func TestP2ResultsStay(t *testing.T) {
	s := load(t, []int{0, 0}, 0, 1)
	gens, all := s.Gens(), s.All()
	s.Free(at(0, 0))
	if !slices.Equal(gens, []int{0, 0}) || !slices.Equal(all, []api.Handle{at(0, 0), at(1, 0)}) {
		t.Error("earlier results have changed", gens, all)
	}
}

func TestP2SlotsAreIndependent(t *testing.T) {
	gens := []int{0, 5}
	a, b, c := load(t, gens, 0), load(t, gens, 0), slots.New()
	checkTake(t, a, at(1, 5), api.OK)
	checkFree(t, a, at(0, 0), api.OK)
	checkState(t, a, []int{1, 5}, at(1, 5))
	checkState(t, b, []int{0, 5}, at(0, 0))
	checkState(t, c, nil)
	checkState(t, slots.New(), nil)
	checkTake(t, c, at(0, 0), api.OK)
	checkState(t, slots.New(), nil)
	checkLoadError(t, []int{0}, []int{0, 0}, api.ErrTwice)
	checkState(t, load(t, []int{0}, 0), []int{0}, at(0, 0))
}
