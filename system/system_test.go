package system_test

import (
	"math"
	"math/rand"
	"slices"
	"testing"

	"vivarium/api"
	"vivarium/mask"
	"vivarium/system"
)

const (
	most  = 1000000000
	mostN = 1000000
)

func beast(kinds int, values ...int) api.Beast {
	b := api.Beast{Kinds: kinds}
	copy(b.Values[:], values)
	return b
}

func raise(write, n int) api.System { return api.System{Do: api.Raise, Write: write, N: n} }

func sum(read, write, n int) api.System {
	return api.System{Do: api.Sum, Read: read, Write: write, N: n}
}

func swap(write int) api.System { return api.System{Do: api.Swap, Write: write} }

// of returns the system s for the entities of the query need, not, some.
func of(s api.System, need, not, some int) api.System {
	s.Query = api.Query{Need: need, Not: not, Any: some}
	return s
}

// oddNumbers are the numbers at which a mistake with signs, shifts or bounds
// shows.
func oddNumbers() []int {
	return []int{
		math.MinInt, math.MinInt + 1, -most - 1, -most, -mostN - 1, -mostN, -256, -255, -1, 0, 1, 2, 3, 4, 8,
		128, 254, 255, 256, 257, mostN, mostN + 1, most, most + 1, 1 << 32, 1<<32 + 1, math.MaxInt - 1, math.MaxInt,
	}
}

func checkCheck(t *testing.T, s api.System, want api.Errno) {
	t.Helper()
	if e := system.Check(s); e != want {
		t.Errorf("Check(%v) = %d; want %d", s, e, want)
	}
}

func checkStep(t *testing.T, b api.Beast, s api.System, want api.Beast) {
	t.Helper()
	if x, e := system.Step(b, s); x != want || e != api.OK {
		t.Errorf("Step(%v, %v) = %v, %d; want %v, 0", b, s, x, e, want)
	}
}

func checkStepError(t *testing.T, b api.Beast, s api.System, want api.Errno) {
	t.Helper()
	if x, e := system.Step(b, s); x != (api.Beast{}) || e != want {
		t.Errorf("Step(%v, %v) = %v, %d; want a zero beast, %d", b, s, x, e, want)
	}
}

// checkClash checks both orders of a and b.
func checkClash(t *testing.T, a, b api.System, want bool) {
	t.Helper()
	if system.Clash(a, b) != want {
		t.Errorf("Clash(%v, %v) is not %t", a, b, want)
	}
	if system.Clash(b, a) != want {
		t.Errorf("Clash(%v, %v) is not %t", b, a, want)
	}
}

func checkPlan(t *testing.T, l []api.System, want ...int) {
	t.Helper()
	if p, e := system.Plan(l); !slices.Equal(p, want) || e != api.OK {
		t.Errorf("Plan(%v) = %v, %d; want %v, 0", l, p, e, want)
	}
}

func checkPlanError(t *testing.T, l []api.System, want api.Errno) {
	t.Helper()
	if p, e := system.Plan(l); p != nil || e != want {
		t.Errorf("Plan(%v) = %v, %d; want nil, %d", l, p, e, want)
	}
}

// validSystems are systems of all kinds, with the bounds of what may be in them.
func validSystems() []api.System {
	return []api.System{
		raise(0, 0), raise(255, mostN), raise(255, -mostN), raise(1, 1), raise(128, -1),
		sum(0, 0, 0), sum(255, 255, mostN), sum(255, 255, -mostN), sum(1, 128, 0), sum(128, 1, 7), sum(0, 255, 3),
		swap(0), swap(1), swap(255), swap(129), swap(42),
		of(raise(3, 1), 255, 0, 0), of(sum(3, 3, 1), 0, 255, 0), of(swap(3), 0, 0, 255), of(swap(3), 255, 255, 255), of(raise(3, 1), 1, 2, 4),
	}
}

func TestP17Check(t *testing.T) {
	for _, s := range validSystems() {
		checkCheck(t, s, api.OK)
	}
	for m := range 256 {
		checkCheck(t, raise(m, 1), api.OK)
		checkCheck(t, sum(m, 255-m, 1), api.OK)
		checkCheck(t, swap(m), api.OK)
		checkCheck(t, of(swap(m), m, 255-m, m), api.OK)
	}
}

func TestP17CheckArguments(t *testing.T) {
	for _, s := range []api.System{raise(3, 1), sum(3, 6, 1), swap(3)} {
		for _, n := range oddNumbers() {
			bad := s
			if n < 0 || n > 255 {
				checkCheck(t, of(s, n, 0, 0), api.ErrArg)
				checkCheck(t, of(s, 0, n, 0), api.ErrArg)
				checkCheck(t, of(s, 0, 0, n), api.ErrArg)
				bad.Read = n
				checkCheck(t, bad, api.ErrArg)
				bad.Read, bad.Write = s.Read, n
				checkCheck(t, bad, api.ErrArg)
			}
			if bad = s; n < -mostN || n > mostN {
				bad.N = n
				checkCheck(t, bad, api.ErrArg)
			}
		}
	}
	for _, do := range oddNumbers() {
		if do < 1 || do > 3 {
			checkCheck(t, api.System{Do: do}, api.ErrArg)
			checkCheck(t, api.System{Do: do, Write: 1}, api.ErrArg)
		}
	}
	checkCheck(t, api.System{}, api.ErrArg)
}

func TestP17CheckForm(t *testing.T) {
	for _, n := range []int{1, -1, 2, 255, mostN, -mostN} {
		checkCheck(t, api.System{Do: api.Swap, Write: 3, N: n}, api.ErrForm)
		checkCheck(t, api.System{Do: api.Swap, N: n}, api.ErrForm)
	}
	for read := 1; read < 256; read++ {
		checkCheck(t, api.System{Do: api.Raise, Read: read, Write: 3, N: 1}, api.ErrForm)
		checkCheck(t, api.System{Do: api.Raise, Read: read}, api.ErrForm)
		checkCheck(t, api.System{Do: api.Swap, Read: read, Write: read}, api.ErrForm)
		checkCheck(t, api.System{Do: api.Swap, Read: read, N: 1}, api.ErrForm)
	}
}

// What is out of its bounds precedes what is not so formed.
func TestP17CheckErrorOrder(t *testing.T) {
	for _, s := range []api.System{{Do: api.Swap, N: 1}, {Do: api.Swap, Read: 1}, {Do: api.Raise, Read: 1}} {
		checkCheck(t, s, api.ErrForm)
		checkCheck(t, of(s, 256, 0, 0), api.ErrArg)
		checkCheck(t, of(s, 0, -1, 0), api.ErrArg)
		checkCheck(t, of(s, 0, 0, 256), api.ErrArg)
		bad := s
		bad.Write = 256
		checkCheck(t, bad, api.ErrArg)
		bad.Write = -1
		checkCheck(t, bad, api.ErrArg)
		bad = s
		bad.Do += 3
		checkCheck(t, bad, api.ErrArg)
	}
	checkCheck(t, api.System{Do: api.Raise, Read: 256}, api.ErrArg)
	checkCheck(t, api.System{Do: api.Raise, Read: 1, N: mostN + 1}, api.ErrArg)
	checkCheck(t, api.System{Do: api.Swap, Read: -1, N: 1}, api.ErrArg)
	checkCheck(t, api.System{Do: api.Swap, N: mostN + 1}, api.ErrArg)
	checkCheck(t, api.System{Do: api.Swap, Read: 1, N: -mostN - 1}, api.ErrArg)
}

func TestP17StepRaise(t *testing.T) {
	b := beast(7, 1, 2, 3)
	checkStep(t, b, raise(7, 10), beast(7, 11, 12, 13))
	checkStep(t, b, raise(2, -10), beast(7, 1, -8, 3))
	checkStep(t, b, raise(5, 1), beast(7, 2, 2, 4))
	checkStep(t, b, raise(7, 0), b)
	checkStep(t, b, raise(0, 5), b)
	// A component that the entity does not have is not added.
	checkStep(t, b, raise(13, 10), beast(7, 11, 2, 13))
	checkStep(t, b, raise(248, 10), b)
	checkStep(t, beast(0), raise(255, 10), beast(0))
	checkStep(t, beast(129, 5, 0, 0, 0, 0, 0, 0, 6), raise(255, mostN), beast(129, mostN+5, 0, 0, 0, 0, 0, 0, mostN+6))
}

func TestP17StepSum(t *testing.T) {
	b := beast(7, 1, 2, 3)
	checkStep(t, b, sum(3, 4, 0), beast(7, 1, 2, 3))
	checkStep(t, b, sum(3, 4, 10), beast(7, 1, 2, 13))
	checkStep(t, b, sum(4, 1, -10), beast(7, -7, 2, 3))
	// All values are the previous ones, of what is written, too.
	checkStep(t, b, sum(7, 7, 0), beast(7, 6, 6, 6))
	checkStep(t, b, sum(7, 3, 0), beast(7, 6, 6, 3))
	checkStep(t, b, sum(3, 6, 1), beast(7, 1, 4, 4))
	checkStep(t, b, sum(6, 2, 0), beast(7, 1, 5, 3))
	// Only components of the entity are read and written.
	checkStep(t, b, sum(11, 2, 1), beast(7, 1, 4, 3))
	checkStep(t, b, sum(248, 1, 5), beast(7, 5, 2, 3))
	checkStep(t, b, sum(7, 249, 0), beast(7, 6, 2, 3))
	checkStep(t, b, sum(7, 248, 0), b)
	checkStep(t, b, sum(255, 0, 9), b)
	// With nothing to read, the sum is N.
	checkStep(t, b, sum(0, 255, 0), beast(7, 0, 0, 0))
	checkStep(t, b, sum(0, 5, -4), beast(7, -4, 2, -4))
	checkStep(t, beast(0), sum(255, 255, 10), beast(0))
	checkStep(t, beast(192, 0, 0, 0, 0, 0, 0, 40, 2), sum(192, 128, 0), beast(192, 0, 0, 0, 0, 0, 0, 40, 42))
}

func TestP17StepSwap(t *testing.T) {
	b := beast(7, 1, 2, 3)
	checkStep(t, b, swap(7), beast(7, 2, 3, 1))
	checkStep(t, b, swap(3), beast(7, 2, 1, 3))
	checkStep(t, b, swap(5), beast(7, 3, 2, 1))
	checkStep(t, b, swap(6), beast(7, 1, 3, 2))
	checkStep(t, b, swap(0), b)
	checkStep(t, b, swap(4), b)
	// The next component is the next one that the entity has.
	checkStep(t, b, swap(255), beast(7, 2, 3, 1))
	checkStep(t, b, swap(13), beast(7, 3, 2, 1))
	checkStep(t, b, swap(248), b)
	checkStep(t, b, swap(252), b)
	checkStep(t, beast(0), swap(255), beast(0))
	checkStep(t, beast(129, 5, 0, 0, 0, 0, 0, 0, 6), swap(255), beast(129, 6, 0, 0, 0, 0, 0, 0, 5))
	checkStep(t, beast(255, 1, 2, 3, 4, 5, 6, 7, 8), swap(255), beast(255, 2, 3, 4, 5, 6, 7, 8, 1))
	checkStep(t, beast(255, 1, 2, 3, 4, 5, 6, 7, 8), swap(170), beast(255, 1, 4, 3, 6, 5, 8, 7, 2))
	checkStep(t, beast(3, most, -most), swap(3), beast(3, -most, most))
}

// As often as there are components, Swap restores the values.
func TestP17StepSwapGoesRound(t *testing.T) {
	start := beast(255, 1, 2, 3, 4, 5, 6, 7, 8)
	for m := range 256 {
		b := start
		for i := range mask.Count(m) {
			if i > 0 && b == start {
				t.Errorf("Swap of %d has restored the values after %d times", m, i)
			}
			b, _ = system.Step(b, swap(m))
		}
		if b != start {
			t.Errorf("Swap of %d makes %v of %v after a round", m, b, start)
		}
	}
}

func TestP17StepClamps(t *testing.T) {
	for _, c := range []struct{ value, n, want int }{
		{most, 0, most}, {most, 1, most}, {most, mostN, most}, {most - 1, 1, most}, {most - 1, 2, most}, {most - mostN, mostN, most}, {most - mostN - 1, mostN, most - 1},
		{-most, 0, -most}, {-most, -1, -most}, {-most, -mostN, -most}, {1 - most, -1, -most}, {1 - most, -2, -most}, {mostN - most, -mostN, -most}, {mostN - most + 1, -mostN, 1 - most},
		{most, -1, most - 1}, {-most, 1, 1 - most},
	} {
		checkStep(t, beast(4, 0, 0, c.value), raise(4, c.n), beast(4, 0, 0, c.want))
		checkStep(t, beast(5, 0, 0, c.value), sum(4, 1, c.n), beast(5, c.want, 0, c.value))
		checkStep(t, beast(4, 0, 0, c.value), sum(4, 4, c.n), beast(4, 0, 0, c.want))
	}
	high := beast(255, most, most, most, most, most, most, most, most)
	low := beast(255, -most, -most, -most, -most, -most, -most, -most, -most)
	checkStep(t, high, raise(255, mostN), high)
	checkStep(t, high, sum(255, 255, mostN), high)
	checkStep(t, low, raise(255, -mostN), low)
	checkStep(t, low, sum(255, 255, -mostN), low)
	checkStep(t, high, sum(255, 1, -mostN), high)
	// The result alone is clamped, not what is added on the way to it.
	checkStep(t, beast(15, most, most, -most, -most), sum(15, 1, 0), beast(15, 0, most, -most, -most))
	checkStep(t, beast(7, most, most, -most), sum(7, 4, 0), beast(7, most, most, most))
	checkStep(t, beast(3, most, -mostN), sum(3, 2, mostN), beast(3, most, most))
	checkStep(t, beast(7, most, 5, -5), sum(7, 4, -3), beast(7, most, 5, most-3))
	checkStep(t, beast(3, -most, -mostN), sum(3, 2, mostN), beast(3, -most, -most))
}

func TestP17StepQuery(t *testing.T) {
	b := beast(7, 1, 2, 3)
	for _, s := range []api.System{raise(7, 1), sum(7, 7, 1), swap(7)} {
		changed, _ := system.Step(b, s)
		for _, q := range []api.Query{{}, {Need: 7}, {Need: 1}, {Not: 248}, {Any: 4}, {Any: 255}, {Need: 3, Not: 8, Any: 12}} {
			s.Query = q
			checkStep(t, b, s, changed)
		}
		for _, q := range []api.Query{{Need: 8}, {Need: 15}, {Need: 255}, {Not: 1}, {Not: 7}, {Not: 255}, {Any: 8}, {Any: 248}, {Need: 1, Not: 1}, {Need: 3, Not: 8, Any: 240}} {
			s.Query = q
			checkStep(t, b, s, b)
		}
	}
	// What is read and written has no part in the query.
	checkStep(t, b, of(raise(8, 1), 1, 0, 0), b)
	checkStep(t, b, of(raise(1, 1), 2, 0, 0), beast(7, 2, 2, 3))
}

func TestP17StepErrors(t *testing.T) {
	b := beast(7, 1, 2, 3)
	for _, c := range []struct {
		s    api.System
		want api.Errno
	}{
		{api.System{}, api.ErrArg}, {api.System{Do: 4}, api.ErrArg}, {api.System{Do: -1, Write: 1}, api.ErrArg}, {raise(256, 1), api.ErrArg}, {raise(-1, 1), api.ErrArg},
		{sum(256, 1, 1), api.ErrArg}, {sum(-1, 1, 1), api.ErrArg}, {raise(1, mostN+1), api.ErrArg}, {sum(1, 1, -mostN-1), api.ErrArg},
		{of(raise(1, 1), 256, 0, 0), api.ErrArg}, {of(raise(1, 1), 0, -1, 0), api.ErrArg}, {of(swap(1), 0, 0, 256), api.ErrArg},
		{api.System{Do: api.Swap, Write: 1, N: 1}, api.ErrForm}, {api.System{Do: api.Swap, Read: 1, Write: 1}, api.ErrForm}, {api.System{Do: api.Raise, Read: 1, Write: 1}, api.ErrForm},
	} {
		checkStepError(t, b, c.s, c.want)
		c.s.Need |= 8 // b does not match
		checkStepError(t, b, c.s, c.want)
		// The system is examined before the entity.
		checkStepError(t, beast(256), c.s, c.want)
		checkStepError(t, beast(0, 1), c.s, c.want)
	}
}

func TestP17StepInvalidBeast(t *testing.T) {
	for _, s := range validSystems() {
		for _, m := range oddNumbers() {
			if m < 0 || m > 255 {
				checkStepError(t, beast(m), s, api.ErrArg)
			}
			if m < -most || m > most {
				checkStepError(t, beast(3, 0, m), s, api.ErrArg)
				checkStepError(t, beast(128, 0, 0, 0, 0, 0, 0, 0, m), s, api.ErrArg)
				checkStepError(t, beast(3, m, 0, 1), s, api.ErrArg)
			}
			if m != 0 {
				checkStepError(t, beast(2, m, 1), s, api.ErrForm)
				checkStepError(t, beast(127, 0, 0, 0, 0, 0, 0, 0, m), s, api.ErrForm)
				checkStepError(t, beast(1, 0, m, most+1), s, api.ErrForm)
			}
		}
	}
}

func has(m, k int) bool { return m>>k&1 == 1 }

// referenceStep follows the words of the chapter, in another way than the
// package: component by component. Both arguments are valid.
func referenceStep(b api.Beast, s api.System) api.Beast {
	if b.Kinds&s.Need != s.Need || b.Kinds&s.Not != 0 || s.Any != 0 && b.Kinds&s.Any == 0 {
		return b
	}
	now := b
	for k := range 8 {
		if !has(b.Kinds, k) || !has(s.Write, k) {
			continue
		}
		n := s.N
		switch s.Do {
		case api.Raise:
			n += b.Values[k]
		case api.Sum:
			for other := range 8 {
				if has(b.Kinds, other) && has(s.Read, other) {
					n += b.Values[other]
				}
			}
		case api.Swap:
			next := (k + 1) % 8
			for !has(b.Kinds, next) || !has(s.Write, next) {
				next = (next + 1) % 8
			}
			n = b.Values[next]
		}
		if n > most {
			n = most
		} else if n < -most {
			n = -most
		}
		now.Values[k] = n
	}
	return now
}

// randomBeast returns a valid beast, often with values close to their bounds.
func randomBeast(r *rand.Rand) api.Beast {
	b := beast(r.Intn(256))
	if r.Intn(4) == 0 {
		b.Kinds = 255
	}
	for k := range 8 {
		if has(b.Kinds, k) {
			b.Values[k] = []int{r.Intn(2*mostN) - mostN, r.Intn(2*most+1) - most, most - r.Intn(3), r.Intn(3) - most}[r.Intn(4)]
		}
	}
	return b
}

// randomSet returns a set with few components, or, now and then, any set.
func randomSet(r *rand.Rand) int {
	if r.Intn(8) == 0 {
		return r.Intn(256)
	}
	return r.Intn(256) & r.Intn(256) & r.Intn(256)
}

// randomSystem returns a valid system whose query is not too narrow.
func randomSystem(r *rand.Rand) api.System {
	s := api.System{Do: 1 + r.Intn(3), Write: randomSet(r)}
	if s.Do == api.Sum {
		s.Read = randomSet(r)
	}
	if s.Do != api.Swap {
		s.N = []int{r.Intn(7) - 3, r.Intn(2*mostN+1) - mostN, mostN, -mostN}[r.Intn(4)]
	}
	switch r.Intn(6) {
	case 0:
		s.Need = randomSet(r)
	case 1:
		s.Not = randomSet(r)
	case 2:
		s.Any = randomSet(r)
	}
	return s
}

func TestP17RandomSteps(t *testing.T) {
	changed := 0
	for seed := range int64(40000) {
		r := rand.New(rand.NewSource(seed))
		b, s := randomBeast(r), randomSystem(r)
		want := referenceStep(b, s)
		checkStep(t, b, s, want)
		// The result is a valid entity, too, with the same components.
		if e := mask.CheckBeast(want); e != api.OK || want.Kinds != b.Kinds {
			t.Errorf("Step(%v, %v) is not valid: %v, %d", b, s, want, e)
		}
		if want != b {
			changed++
		}
	}
	if changed < 10000 {
		t.Errorf("only %d random steps change something", changed)
	}
}

func TestP17EveryMixOfSets(t *testing.T) {
	values := [8]int{1, 20, 300, 4000, 50000, 600000, 7000000, 80000000}
	for kinds := range 256 {
		b := beast(kinds)
		for k := range 8 {
			if has(kinds, k) {
				b.Values[k] = values[k]
			}
		}
		for m := range 256 {
			for _, s := range []api.System{raise(m, 5), sum(m, 255, 5), sum(255, m, -5), sum(m, m, 0), swap(m), of(raise(255, 1), m, 0, 0), of(swap(255), 0, m, 0), of(sum(1, 255, 1), 0, 0, m)} {
				checkStep(t, b, s, referenceStep(b, s))
			}
		}
	}
}

func TestP18Clash(t *testing.T) {
	// both write
	checkClash(t, raise(1, 1), raise(1, 1), true)
	checkClash(t, raise(3, 1), raise(6, 2), true)
	checkClash(t, raise(128, 1), swap(192), true)
	checkClash(t, swap(3), swap(6), true)
	checkClash(t, sum(0, 1, 0), sum(0, 1, 0), true)
	// one writes what the other one reads
	checkClash(t, raise(1, 1), sum(3, 4, 0), true)
	checkClash(t, raise(2, 1), sum(3, 4, 0), true)
	checkClash(t, swap(3), sum(1, 4, 0), true)
	checkClash(t, sum(0, 1, 0), sum(1, 2, 0), true)
	checkClash(t, sum(1, 2, 0), sum(2, 1, 0), true)
	checkClash(t, raise(128, 1), sum(128, 1, 0), true)
	checkClash(t, raise(1, 1), sum(1, 0, 0), true)
	// neither
	checkClash(t, raise(1, 1), raise(2, 1), false)
	checkClash(t, raise(1, 1), swap(6), false)
	checkClash(t, swap(3), swap(12), false)
	checkClash(t, sum(3, 4, 0), raise(8, 1), false)
	checkClash(t, sum(128, 1, 0), raise(64, 1), false)
	checkClash(t, raise(0, 1), raise(255, 1), false)
	checkClash(t, swap(0), swap(255), false)
	checkClash(t, raise(0, 1), raise(0, 1), false)
	// both may read
	checkClash(t, sum(3, 4, 0), sum(3, 8, 0), false)
	checkClash(t, sum(255, 0, 0), sum(255, 0, 0), false)
}

// What the systems do with the components, and to which entities, makes no
// difference.
func TestP18ClashRegardsOnlySets(t *testing.T) {
	checkClash(t, of(raise(1, 1), 2, 0, 0), of(raise(1, 1), 0, 2, 0), true)
	checkClash(t, of(raise(1, 1), 8, 0, 0), of(raise(2, 1), 0, 8, 0), false)
	checkClash(t, of(raise(1, 1), 2, 0, 0), raise(2, 1), false)
	checkClash(t, of(raise(1, 1), 0, 2, 0), raise(2, 1), false)
	checkClash(t, of(raise(1, 1), 0, 0, 2), raise(2, 1), false)
	checkClash(t, raise(1, 0), raise(1, 0), true)
	checkClash(t, swap(1), swap(1), true)
}

// referenceClash follows the words of the chapter, one component at a time.
func referenceClash(a, b api.System) bool {
	reads := func(s api.System, k int) bool { return has(s.Read, k) || s.Do == api.Swap && has(s.Write, k) }
	for k := range 8 {
		if has(a.Write, k) && (reads(b, k) || has(b.Write, k)) || has(b.Write, k) && (reads(a, k) || has(a.Write, k)) {
			return true
		}
	}
	return false
}

func TestP18EveryMixOfSets(t *testing.T) {
	for a := range 256 {
		for b := range 256 {
			for _, c := range [][2]api.System{
				{raise(a, 1), raise(b, 1)}, {raise(a, 1), swap(b)}, {swap(a), swap(b)}, {swap(a), sum(b, 0, 1)}, {raise(a, 1), sum(b, 0, 1)},
				{sum(a, 0, 1), sum(b, 0, 1)}, {sum(a, b, 1), sum(b, a, 1)}, {sum(0, a, 1), sum(b, 129, 1)}, {sum(a, 24, 1), sum(36, b, 1)},
			} {
				checkClash(t, c[0], c[1], referenceClash(c[0], c[1]))
			}
		}
	}
}

// A bit that is no component is in no set; the lowest eight bits of a number
// that is no set are regarded, as they are by mask.List.
func TestP18ClashInvalidSystems(t *testing.T) {
	checkClash(t, raise(256, 1), raise(256, 1), false)
	checkClash(t, raise(math.MinInt, 1), sum(math.MinInt, math.MinInt, 1), false)
	checkClash(t, raise(256+1, 1), raise(512+1, 1), true)
	checkClash(t, raise(-1, 1), sum(128, 0, 1), true)
	checkClash(t, raise(-256, 1), raise(-256, 1), false)
	checkClash(t, api.System{}, api.System{}, false)
	checkClash(t, api.System{Do: 9, Write: 1}, api.System{Do: -9, Read: 1}, true)
	checkClash(t, api.System{Do: api.Raise, Read: 2}, api.System{Do: api.Raise, Write: 2}, true)
	checkClash(t, api.System{Do: api.Swap, Read: 2, N: 7}, api.System{Do: api.Raise, Write: 2}, true)
	for _, a := range oddNumbers() {
		for _, b := range oddNumbers() {
			checkClash(t, raise(a, 1), sum(b, 0, 1), referenceClash(raise(a, 1), sum(b, 0, 1)))
			checkClash(t, swap(a), raise(b, 1), referenceClash(swap(a), raise(b, 1)))
		}
	}
}

func TestP18Plan(t *testing.T) {
	checkPlan(t, nil)
	checkPlan(t, []api.System{})
	checkPlan(t, []api.System{raise(1, 1)}, 0)
	checkPlan(t, []api.System{raise(1, 1), raise(1, 1), raise(1, 1)}, 0, 1, 2)
	checkPlan(t, []api.System{raise(1, 1), raise(2, 1), raise(4, 1)}, 0, 0, 0)
	checkPlan(t, []api.System{raise(1, 1), raise(2, 1), sum(3, 4, 0), raise(8, 1), raise(1, 1)}, 0, 0, 1, 0, 2)
	// A system follows the greatest batch that it conflicts with, not the last
	// of them, and not all batches.
	checkPlan(t, []api.System{raise(1, 1), raise(1, 1), raise(2, 1), raise(3, 1)}, 0, 1, 0, 2)
	checkPlan(t, []api.System{raise(1, 1), raise(1, 1), raise(1, 1), raise(2, 1), raise(2, 1)}, 0, 1, 2, 0, 1)
	checkPlan(t, []api.System{raise(1, 1), swap(3), raise(4, 1), sum(2, 8, 0), raise(12, 1), raise(16, 1)}, 0, 1, 0, 2, 3, 0)
	// Readers are in one batch, what writes to them is not.
	checkPlan(t, []api.System{sum(1, 2, 0), sum(1, 4, 0), raise(1, 1), sum(1, 8, 0)}, 0, 0, 1, 2)
	// Systems without components conflict with none.
	checkPlan(t, []api.System{swap(255), raise(0, 1), sum(0, 0, 1), swap(255)}, 0, 0, 0, 1)
}

func TestP18PlanLarge(t *testing.T) {
	var l []api.System
	var want []int
	for i := range 20 {
		l, want = append(l, raise(1, i)), append(want, i)
	}
	checkPlan(t, l, want...)
	checkPlan(t, slices.Repeat([]api.System{raise(0, 1)}, 20), make([]int, 20)...)
	checkPlanError(t, append(l, raise(1, 1)), api.ErrLarge)
	checkPlanError(t, slices.Repeat([]api.System{swap(0)}, 100000), api.ErrLarge)
	// Before any system is examined:
	checkPlanError(t, make([]api.System, 20), api.ErrArg)
	checkPlanError(t, make([]api.System, 21), api.ErrLarge)
	checkPlanError(t, slices.Repeat([]api.System{{Do: api.Swap, N: 1}}, 21), api.ErrLarge)
}

func TestP18PlanErrors(t *testing.T) {
	arg, form := raise(256, 1), api.System{Do: api.Swap, N: 1}
	good := validSystems()[:18]
	for i := range good {
		checkPlanError(t, slices.Insert(slices.Clone(good), i, arg), api.ErrArg)
		checkPlanError(t, slices.Insert(slices.Clone(good), i, form), api.ErrForm)
	}
	for _, c := range []struct {
		l    []api.System
		want api.Errno
	}{
		{[]api.System{arg}, api.ErrArg}, {[]api.System{form}, api.ErrForm}, {[]api.System{arg, form}, api.ErrArg}, {[]api.System{form, arg}, api.ErrForm},
		{[]api.System{raise(1, 1), form, arg}, api.ErrForm}, {[]api.System{raise(1, 1), arg, form}, api.ErrArg}, {[]api.System{{}}, api.ErrArg},
		{[]api.System{raise(1, 1), raise(1, mostN+1)}, api.ErrArg}, {[]api.System{of(swap(1), 0, 256, 0)}, api.ErrArg}, {[]api.System{{Do: api.Raise, Read: 1}}, api.ErrForm},
	} {
		checkPlanError(t, c.l, c.want)
	}
}

// referencePlan finds the batches in another way than the package: one after
// the other. A batch has all systems that conflict with none of those before
// them that are in this batch or in a later one.
func referencePlan(l []api.System) []int {
	batches := slices.Repeat([]int{-1}, len(l))
	for number := 0; slices.Contains(batches, -1); number++ {
		for i, s := range l {
			free := batches[i] == -1
			for j := range i {
				later := batches[j] == -1 || batches[j] == number
				free = free && !(later && referenceClash(l[j], s))
			}
			if free {
				batches[i] = number
			}
		}
	}
	return batches
}

func TestP18RandomPlans(t *testing.T) {
	greatest := 0
	for seed := range int64(5000) {
		r := rand.New(rand.NewSource(seed))
		l := make([]api.System, r.Intn(21))
		for i := range l {
			l[i] = randomSystem(r)
		}
		want := referencePlan(l)
		checkPlan(t, l, want...)
		for _, n := range want {
			greatest = max(greatest, n)
		}
	}
	if greatest < 8 {
		t.Errorf("the random plans have no more than %d batches", greatest+1)
	}
}

func steps(t *testing.T, b api.Beast, l []api.System) api.Beast {
	t.Helper()
	for _, s := range l {
		var e api.Errno
		if b, e = system.Step(b, s); e != api.OK {
			t.Errorf("Step fails: %d", e)
		}
	}
	return b
}

// Batch after batch, in any order within each, the effect is that of the list.
func TestP18BatchesHaveNoOrder(t *testing.T) {
	for seed := range int64(3000) {
		r := rand.New(rand.NewSource(seed))
		l := make([]api.System, 1+r.Intn(12))
		for i := range l {
			l[i] = randomSystem(r)
		}
		batches, _ := system.Plan(l)
		var mixed []api.System
		for number := range l {
			for _, i := range r.Perm(len(l)) {
				if batches[i] == number {
					mixed = append(mixed, l[i])
				}
			}
		}
		b := randomBeast(r)
		if x, y := steps(t, b, l), steps(t, b, mixed); len(mixed) != len(l) || x != y {
			t.Errorf("%v makes %v of %v, but by batches %v", l, x, b, y)
		}
	}
}

// A panic in any of these calls fails the test.
func TestP1NoPanic(t *testing.T) {
	for _, m := range oddNumbers() {
		for _, n := range oddNumbers() {
			for _, s := range []api.System{
				{Do: m, Read: n, Write: n, N: m}, {Do: api.Raise, Write: m, N: n}, {Do: api.Sum, Read: m, Write: n, N: m}, {Do: api.Swap, Write: m, N: n},
				of(raise(255, 1), m, n, m), of(swap(255), n, m, n), {Do: api.Swap, Read: m, Write: n},
			} {
				system.Check(s)
				system.Clash(s, sum(m, n, m))
				system.Plan([]api.System{s, raise(1, 1), s})
				for _, b := range []api.Beast{beast(255, 1, 2, 3), beast(m, n, n, n, n, n, n, n, n), beast(255, m, n, m, n, m, n, m, n), {}} {
					system.Step(b, s)
				}
			}
		}
	}
	system.Plan(make([]api.System, 100000))
}

func spoil(l []api.System) {
	l = l[:cap(l)]
	for i := range l {
		l[i] = raise(77, 7)
	}
}

func samplePlan() ([]api.System, []int) {
	return []api.System{raise(1, 1), raise(2, 1), sum(3, 4, 0), swap(24), raise(1, 1), sum(16, 32, 0)}, []int{0, 0, 1, 0, 2, 1}
}

func TestP2ArgumentsStayAsTheyAre(t *testing.T) {
	l, want := samplePlan()
	l = slices.Grow(l, 30)
	whole := l[:cap(l)]
	spoil(whole[len(l):])
	before := slices.Clone(whole)
	checkPlan(t, l, want...)
	checkPlanError(t, append(slices.Clip(l), api.System{}), api.ErrArg)
	checkPlanError(t, whole, api.ErrLarge)
	if !slices.Equal(whole, before) {
		t.Error("Plan has changed its argument or the capacity behind it")
	}
}

func TestP2ArgumentsAreNotKept(t *testing.T) {
	l, want := samplePlan()
	p, _ := system.Plan(l)
	spoil(l)
	if !slices.Equal(p, want) {
		t.Error("a result has changed with an argument")
	}
	l, _ = samplePlan()
	checkPlan(t, l, want...)
}

func TestP2ResultsAreNew(t *testing.T) {
	l, want := samplePlan()
	for range 2 {
		p, _ := system.Plan(l)
		empty, _ := system.Plan(nil)
		other, _ := system.Plan(l[:2])
		for _, x := range [][]int{p, empty, other} {
			x = x[:cap(x)]
			for i := range x {
				x[i] = 99
			}
		}
		checkPlan(t, l, want...)
		checkPlan(t, l[:2], 0, 0)
	}
	first, _ := system.Plan(l)
	second, _ := system.Plan(l)
	first[0] = 99
	if slices.Contains(second[:cap(second)], 99) {
		t.Error("two results share memory")
	}
}

func TestP2NoStateBetweenCalls(t *testing.T) {
	l, want := samplePlan()
	b := beast(7, 1, 2, 3)
	for range 3 {
		checkStep(t, b, swap(7), beast(7, 2, 3, 1))
		checkStepError(t, b, api.System{}, api.ErrArg)
		checkStep(t, b, sum(7, 1, 0), beast(7, 6, 2, 3))
		checkStepError(t, beast(0, 1), swap(7), api.ErrForm)
		checkCheck(t, raise(256, 1), api.ErrArg)
		checkCheck(t, raise(255, 1), api.OK)
		checkPlanError(t, make([]api.System, 21), api.ErrLarge)
		checkPlan(t, l, want...)
		checkPlanError(t, make([]api.System, 1), api.ErrArg)
		checkPlan(t, nil)
		checkClash(t, raise(1, 1), swap(1), true)
		checkClash(t, raise(1, 1), swap(2), false)
	}
}
