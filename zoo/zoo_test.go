package zoo_test

import (
	"maps"
	"math"
	"math/rand"
	"slices"
	"testing"

	"vivarium/api"
	"vivarium/mask"
	"vivarium/zoo"
)

const (
	most    = 1000000000
	lastGen = 1000000
)

func at(slot, gen int) api.Handle { return api.Handle{Slot: slot, Gen: gen} }

// nth denotes the handle of the k-th Spawn of a list.
func nth(k int) api.Handle { return at(-k, 0) }

// beast has the components of kinds, with the values base, base + 1 and so on.
func beast(kinds, base int) api.Beast {
	b := api.Beast{Kinds: kinds}
	for k := range 8 {
		if kinds>>k&1 == 1 {
			b.Values[k] = base + k
		}
	}
	return b
}

func row(slot, gen, kinds int) api.Row {
	return api.Row{Handle: at(slot, gen), Beast: beast(kinds, 100*slot+10)}
}

func spawn(b api.Beast) api.Op             { return api.Op{Do: api.Spawn, Beast: b} }
func kill(h api.Handle) api.Op             { return api.Op{Do: api.Kill, At: h} }
func put(h api.Handle, kind, n int) api.Op { return api.Op{Do: api.Put, At: h, Kind: kind, N: n} }
func drop(h api.Handle, kind int) api.Op   { return api.Op{Do: api.Drop, At: h, Kind: kind} }
func adopt(child, parent api.Handle) api.Op {
	return api.Op{Do: api.Adopt, At: child, To: parent}
}
func loosen(h api.Handle) api.Op { return api.Op{Do: api.Loosen, At: h} }

// oddNumbers are the numbers at which a mistake with signs, shifts or bounds shows.
func oddNumbers() []int {
	return []int{
		math.MinInt, math.MinInt + 1, -most - 1, -256, -61, -60, -8, -2, -1, 0, 1, 2, 6, 7, 8, 59, 60, 61,
		255, 256, lastGen, lastGen + 1, most, most + 1, 1 << 32, 1<<32 + 1, math.MaxInt - 1, math.MaxInt,
	}
}

func equal(a, b api.State) bool {
	return slices.Equal(a.Gens, b.Gens) && slices.Equal(a.Rows, b.Rows) && slices.Equal(a.Bonds, b.Bonds)
}

func clone(s api.State) api.State {
	return api.State{Gens: slices.Clone(s.Gens), Rows: slices.Clone(s.Rows), Bonds: slices.Clone(s.Bonds)}
}

func checkDo(t *testing.T, z *zoo.Zoo, op api.Op, want api.Handle, wantErr api.Errno) {
	t.Helper()
	if h, e := z.Do(op); h != want || e != wantErr {
		t.Errorf("Do(%v) = %v, %d; want %v, %d", op, h, e, want, wantErr)
	}
}

func checkAll(t *testing.T, z *zoo.Zoo, want int, wantErr api.Errno, ops ...api.Op) {
	t.Helper()
	if n, e := z.All(ops); n != want || e != wantErr {
		t.Errorf("All(%v) = %d, %d; want %d, %d", ops, n, e, want, wantErr)
	}
}

func checkGet(t *testing.T, z *zoo.Zoo, h api.Handle, want api.Beast, wantErr api.Errno) {
	t.Helper()
	if b, e := z.Get(h); b != want || e != wantErr {
		t.Errorf("Get(%v) = %v, %d; want %v, %d", h, b, e, want, wantErr)
	}
}

func checkParent(t *testing.T, z *zoo.Zoo, h, want api.Handle, wantIs bool) {
	t.Helper()
	if p, is := z.Parent(h); p != want || is != wantIs {
		t.Errorf("Parent(%v) = %v, %v; want %v, %v", h, p, is, want, wantIs)
	}
}

func checkRows(t *testing.T, z *zoo.Zoo, q api.Query, want []api.Row, wantErr api.Errno) {
	t.Helper()
	if l, e := z.Rows(q); !slices.Equal(l, want) || e != wantErr {
		t.Errorf("Rows(%v) = %v, %d; want %v, %d", q, l, e, want, wantErr)
	}
}

// checkZoo compares all that can be seen of a zoo without changing it.
func checkZoo(t *testing.T, z *zoo.Zoo, s api.State) {
	t.Helper()
	if x := z.State(); !equal(x, s) {
		t.Errorf("State() = %v; want %v", x, s)
	}
	checkRows(t, z, api.Query{}, s.Rows, api.OK)
	beasts, parents := map[api.Handle]api.Beast{}, map[api.Handle]api.Handle{}
	for _, r := range s.Rows {
		beasts[r.Handle] = r.Beast
	}
	for _, b := range s.Bonds {
		parents[b.Child] = b.Parent
	}
	for i, g := range append(slices.Clone(s.Gens), 0) {
		for _, h := range []api.Handle{at(i, g-1), at(i, g), at(i, g+1)} {
			p, is := parents[h]
			checkParent(t, z, h, p, is)
			if b, live := beasts[h]; live {
				checkGet(t, z, h, b, api.OK)
			} else {
				checkGet(t, z, h, api.Beast{}, api.ErrDead)
			}
		}
	}
}

func load(t *testing.T, s api.State) *zoo.Zoo {
	t.Helper()
	z, e := zoo.Load(s)
	if z == nil || e != api.OK {
		t.Fatalf("Load(%v) = %v, %d", s, z, e)
	}
	return z
}

func checkLoadError(t *testing.T, s api.State, want api.Errno) {
	t.Helper()
	if z, e := zoo.Load(s); z != nil || e != want {
		t.Errorf("Load(%v) = %v, %d; want nil, %d", s, z, e, want)
	}
}

func bond(child, parent api.Handle) api.Bond { return api.Bond{Child: child, Parent: parent} }

// sample has the live slots 0, 2, 3, 5, 6 and 7, with these roots:
//
//	6: 2 (0, 5 (3))
//	7
func sample(t *testing.T) (*zoo.Zoo, api.State) {
	t.Helper()
	s := api.State{
		Gens: []int{4, 7, 0, 2, lastGen, 1, 3, 0},
		Rows: []api.Row{row(0, 4, 5), row(2, 0, 3), row(3, 2, 5), row(5, 1, 0), row(6, 3, 255), row(7, 0, 3)},
		Bonds: []api.Bond{
			bond(at(0, 4), at(2, 0)), bond(at(2, 0), at(6, 3)), bond(at(3, 2), at(5, 1)), bond(at(5, 1), at(2, 0)),
		},
	}
	return load(t, s), s
}

// without returns the state after some entities have been killed, as slots.
func without(s api.State, slots ...int) api.State {
	s = clone(s)
	gone := func(h api.Handle) bool { return slices.Contains(slots, h.Slot) }
	for _, i := range slots {
		s.Gens[i]++
	}
	s.Rows = slices.DeleteFunc(s.Rows, func(r api.Row) bool { return gone(r.Handle) })
	s.Bonds = slices.DeleteFunc(s.Bonds, func(b api.Bond) bool { return gone(b.Child) || gone(b.Parent) })
	return s
}

// deadHandles are those of sample that are not live, negative ones among them.
func deadHandles(s api.State) []api.Handle {
	l := []api.Handle{at(1, 7), at(1, 6), at(4, lastGen), at(0, 3), at(0, 5), at(8, 0), nth(1), nth(2)}
	for _, n := range oddNumbers() {
		for _, h := range []api.Handle{at(n, n), at(n, 0), at(0, n), at(5, n)} {
			if !slices.ContainsFunc(s.Rows, func(r api.Row) bool { return r.Handle == h }) {
				l = append(l, h)
			}
		}
	}
	return l
}

func TestP11New(t *testing.T) {
	for _, z := range []*zoo.Zoo{zoo.New(), {}, load(t, api.State{})} {
		checkZoo(t, z, api.State{})
		checkAll(t, z, 0, api.OK)
		checkZoo(t, z, api.State{})
		checkDo(t, z, spawn(beast(3, 1)), at(0, 0), api.OK)
		checkDo(t, z, spawn(beast(0, 1)), at(1, 0), api.OK)
		checkDo(t, z, adopt(at(0, 0), at(1, 0)), api.Handle{}, api.OK)
		checkZoo(t, z, api.State{
			Gens:  []int{0, 0},
			Rows:  []api.Row{{Beast: beast(3, 1)}, {Handle: at(1, 0)}},
			Bonds: []api.Bond{bond(at(0, 0), at(1, 0))},
		})
	}
}

func TestP11Spawn(t *testing.T) {
	z, s := sample(t)
	op := spawn(beast(9, 5))
	op.At, op.To, op.Kind, op.N = at(-7, 1), at(99, 9), 77, most+1 // Spawn uses none of these
	checkDo(t, z, op, at(1, 7), api.OK)
	s.Rows = slices.Insert(s.Rows, 1, api.Row{Handle: at(1, 7), Beast: beast(9, 5)})
	checkZoo(t, z, s)
	checkDo(t, z, spawn(beast(255, -8)), at(8, 0), api.OK)
	s.Gens = append(s.Gens, 0)
	s.Rows = append(s.Rows, api.Row{Handle: at(8, 0), Beast: beast(255, -8)})
	checkZoo(t, z, s)
}

func TestP11SpawnErrors(t *testing.T) {
	z, s := sample(t)
	checkDo(t, z, spawn(api.Beast{Kinds: 256}), api.Handle{}, api.ErrArg)
	checkDo(t, z, spawn(api.Beast{Kinds: -1}), api.Handle{}, api.ErrArg)
	checkDo(t, z, spawn(api.Beast{Kinds: 1, Values: [8]int{most + 1}}), api.Handle{}, api.ErrArg)
	checkDo(t, z, spawn(api.Beast{Kinds: 1, Values: [8]int{1: 1}}), api.Handle{}, api.ErrForm)
	checkZoo(t, z, s)
	full := zoo.New()
	for i := range 60 {
		checkDo(t, full, spawn(api.Beast{}), at(i, 0), api.OK)
	}
	checkDo(t, full, spawn(api.Beast{}), api.Handle{}, api.ErrLarge)
	checkDo(t, full, spawn(api.Beast{Kinds: 256}), api.Handle{}, api.ErrArg)
}

// When an entity is killed, all its descendants are removed, too.
func TestP11Kill(t *testing.T) {
	killed := map[api.Handle][]int{
		at(0, 4): {0}, at(2, 0): {0, 2, 3, 5}, at(3, 2): {3}, at(5, 1): {3, 5}, at(6, 3): {0, 2, 3, 5, 6}, at(7, 0): {7},
	}
	for h, slots := range killed {
		z, s := sample(t)
		checkDo(t, z, kill(h), api.Handle{}, api.OK)
		left := without(s, slots...)
		checkZoo(t, z, left)
		for _, r := range s.Rows {
			if !slices.Contains(slots, r.Slot) {
				continue
			}
			checkDo(t, z, kill(r.Handle), api.Handle{}, api.ErrDead)
			checkDo(t, z, put(r.Handle, 0, 0), api.Handle{}, api.ErrDead)
			checkDo(t, z, loosen(r.Handle), api.Handle{}, api.ErrDead)
		}
		checkZoo(t, z, left)
	}
}

// A new entity in the slot of a killed one has none of its bonds.
func TestP11KillLeavesNoBonds(t *testing.T) {
	z, s := sample(t)
	checkDo(t, z, kill(at(5, 1)), api.Handle{}, api.OK)
	checkDo(t, z, spawn(api.Beast{}), at(1, 7), api.OK)
	checkDo(t, z, spawn(api.Beast{}), at(3, 3), api.OK)
	checkDo(t, z, spawn(api.Beast{}), at(5, 2), api.OK)
	checkParent(t, z, at(3, 3), api.Handle{}, false)
	checkParent(t, z, at(5, 2), api.Handle{}, false)
	checkDo(t, z, loosen(at(3, 3)), api.Handle{}, api.ErrNone)
	checkDo(t, z, kill(at(6, 3)), api.Handle{}, api.OK)
	for _, h := range []api.Handle{at(3, 3), at(5, 2), at(1, 7), at(7, 0)} {
		if _, e := z.Get(h); e != api.OK {
			t.Errorf("Get(%v) = %d; want 0", h, e)
		}
	}
	if l := z.State().Rows; len(l) != 4 {
		t.Errorf("%d rows are left of %v: %v", len(l), s.Rows, l)
	}
}

func TestP11KillOfADeepAndAWideFamily(t *testing.T) {
	parents := map[string]func(i int) int{
		"deep up": func(i int) int { return i - 1 }, "wide": func(int) int { return 0 }, "tree": func(i int) int { return (i - 1) / 2 },
	}
	for name, parent := range parents {
		z := zoo.New()
		for i := range 60 {
			checkDo(t, z, spawn(beast(i, i)), at(i, 0), api.OK)
			if i > 0 {
				checkDo(t, z, adopt(at(i, 0), at(parent(i), 0)), api.Handle{}, api.OK)
			}
		}
		checkDo(t, z, kill(at(0, 0)), api.Handle{}, api.OK)
		checkZoo(t, z, api.State{Gens: slices.Repeat([]int{1}, 60)})
		if t.Failed() {
			t.Fatal(name)
		}
	}
}

func TestP11KillReachesTheLastGeneration(t *testing.T) {
	last := lastGen - 1
	z := load(t, api.State{
		Gens: []int{last, last}, Rows: []api.Row{row(0, last, 1), row(1, last, 1)}, Bonds: []api.Bond{bond(at(1, last), at(0, last))},
	})
	checkDo(t, z, kill(at(0, last)), api.Handle{}, api.OK)
	checkZoo(t, z, api.State{Gens: []int{lastGen, lastGen}})
	checkDo(t, z, spawn(api.Beast{}), at(2, 0), api.OK)
}

func TestP11PutAndDrop(t *testing.T) {
	z, s := sample(t)
	checkDo(t, z, put(at(2, 0), 7, -most), api.Handle{}, api.OK)
	s.Rows[1].Kinds, s.Rows[1].Values[7] = 131, -most
	checkZoo(t, z, s)
	checkDo(t, z, put(at(2, 0), 7, most), api.Handle{}, api.OK)
	s.Rows[1].Values[7] = most
	checkZoo(t, z, s)
	checkDo(t, z, drop(at(2, 0), 0), api.Handle{}, api.OK)
	s.Rows[1].Kinds, s.Rows[1].Values[0] = 130, 0
	checkZoo(t, z, s)
	checkDo(t, z, put(at(2, 0), 8, 0), api.Handle{}, api.ErrArg)
	checkDo(t, z, put(at(2, 0), 0, most+1), api.Handle{}, api.ErrArg)
	checkDo(t, z, put(at(2, 1), 8, 0), api.Handle{}, api.ErrDead)
	checkDo(t, z, drop(at(2, 0), 0), api.Handle{}, api.ErrNone)
	checkDo(t, z, drop(at(2, 0), -1), api.Handle{}, api.ErrArg)
	checkDo(t, z, drop(at(2, 1), -1), api.Handle{}, api.ErrDead)
	checkZoo(t, z, s)
}

func TestP11AdoptAndLoosen(t *testing.T) {
	z, s := sample(t)
	checkDo(t, z, adopt(at(5, 1), at(7, 0)), api.Handle{}, api.OK) // replaces a parent
	s.Bonds[3].Parent = at(7, 0)
	checkZoo(t, z, s)
	checkDo(t, z, adopt(at(7, 0), at(0, 4)), api.Handle{}, api.OK)
	s.Bonds = append(s.Bonds, bond(at(7, 0), at(0, 4)))
	checkZoo(t, z, s)
	checkDo(t, z, adopt(at(6, 3), at(6, 3)), api.Handle{}, api.ErrLoop)
	checkDo(t, z, adopt(at(6, 3), at(3, 2)), api.Handle{}, api.ErrLoop)
	checkDo(t, z, adopt(at(2, 0), at(3, 2)), api.Handle{}, api.ErrLoop)
	checkZoo(t, z, s)
	checkDo(t, z, loosen(at(2, 0)), api.Handle{}, api.OK)
	s.Bonds = slices.Delete(s.Bonds, 1, 2)
	checkZoo(t, z, s)
	checkDo(t, z, loosen(at(2, 0)), api.Handle{}, api.ErrNone)
	checkDo(t, z, loosen(at(6, 3)), api.Handle{}, api.ErrNone)
	checkZoo(t, z, s)
}

func TestP11DeadHandles(t *testing.T) {
	z, s := sample(t)
	for _, h := range deadHandles(s) {
		checkDo(t, z, kill(h), api.Handle{}, api.ErrDead)
		checkDo(t, z, put(h, 0, 1), api.Handle{}, api.ErrDead)
		checkDo(t, z, drop(h, 0), api.Handle{}, api.ErrDead)
		checkDo(t, z, loosen(h), api.Handle{}, api.ErrDead)
		checkDo(t, z, adopt(h, at(7, 0)), api.Handle{}, api.ErrDead)
		checkDo(t, z, adopt(at(7, 0), h), api.Handle{}, api.ErrDead)
		checkDo(t, z, adopt(h, h), api.Handle{}, api.ErrDead) // precedes ErrLoop
	}
	checkZoo(t, z, s)
}

func TestP11OtherOperations(t *testing.T) {
	z, s := sample(t)
	for _, n := range oddNumbers() {
		if n < 1 || n > 6 {
			checkDo(t, z, api.Op{Do: n, At: at(7, 0), To: at(0, 4)}, api.Handle{}, api.ErrArg)
			checkDo(t, z, api.Op{Do: n, At: at(9, 9), Beast: api.Beast{Values: [8]int{1}}}, api.Handle{}, api.ErrArg)
		}
	}
	checkZoo(t, z, s)
}

func TestP12All(t *testing.T) {
	z, s := sample(t)
	checkAll(t, z, 0, api.OK)
	checkZoo(t, z, s)
	checkAll(t, z, 6, api.OK,
		spawn(beast(1, 4)), adopt(nth(1), at(7, 0)), spawn(beast(2, 6)), adopt(nth(2), nth(1)), put(nth(1), 5, 9), kill(at(5, 1)))
	s = without(s, 3, 5)
	s.Gens = append(s.Gens, 0)
	s.Rows = slices.Insert(s.Rows, 1, api.Row{Handle: at(1, 7), Beast: api.Beast{Kinds: 33, Values: [8]int{0: 4, 5: 9}}})
	s.Rows = append(s.Rows, api.Row{Handle: at(8, 0), Beast: beast(2, 6)})
	s.Bonds = slices.Insert(s.Bonds, 1, bond(at(1, 7), at(7, 0)))
	s.Bonds = append(s.Bonds, bond(at(8, 0), at(1, 7)))
	checkZoo(t, z, s)
}

// Whichever operation fails, those before it leave no trace.
func TestP12AllOrNone(t *testing.T) {
	good := []api.Op{
		spawn(beast(3, 1)), put(at(0, 4), 0, 5), drop(at(6, 3), 1), adopt(at(7, 0), nth(1)), loosen(at(0, 4)), kill(at(5, 1)),
		spawn(beast(0, 0)), kill(nth(1)),
	}
	bad := map[api.Errno][]api.Op{
		api.ErrArg:  {{Do: 0}, {Do: 7}, put(at(2, 0), 8, 0), spawn(api.Beast{Kinds: 256})},
		api.ErrForm: {spawn(api.Beast{Values: [8]int{1}})},
		api.ErrDead: {kill(at(1, 6)), put(at(9, 0), 0, 0), drop(at(0, 3), 0), adopt(at(2, 0), at(2, 1)), loosen(at(1, 6))},
		api.ErrNone: {drop(at(2, 0), 7), loosen(at(6, 3)), kill(nth(3))},
		api.ErrLoop: {adopt(at(6, 3), at(6, 3)), adopt(at(6, 3), at(2, 0))},
	}
	for want, ops := range bad {
		for _, op := range ops {
			for n := range len(good) + 1 {
				z, s := sample(t)
				list := append(append(slices.Clone(good[:n]), op), good[n:]...)
				checkAll(t, z, n, want, list...)
				checkZoo(t, z, s)
				checkAll(t, z, len(good), api.OK, good...)
			}
		}
	}
}

// The first of several errors is returned.
func TestP12FirstError(t *testing.T) {
	z, s := sample(t)
	checkAll(t, z, 1, api.ErrDead, put(at(7, 0), 0, 0), kill(at(7, 1)), api.Op{Do: 9}, drop(at(2, 0), 7))
	checkAll(t, z, 0, api.ErrArg, api.Op{Do: 9}, kill(at(7, 1)))
	checkAll(t, z, 2, api.ErrDead, kill(at(2, 0)), spawn(api.Beast{}), kill(at(5, 1)))
	checkZoo(t, z, s)
}

func TestP12TooManyOperations(t *testing.T) {
	z, s := sample(t)
	ops := slices.Repeat([]api.Op{put(at(7, 0), 0, 1)}, 80)
	checkAll(t, z, 0, api.ErrLarge, append(slices.Clone(ops), ops[0])...)
	checkAll(t, z, 0, api.ErrLarge, slices.Repeat([]api.Op{{Do: 9}}, 81)...)
	checkAll(t, z, 0, api.ErrLarge, slices.Repeat(ops, 1000)...)
	checkZoo(t, z, s)
	checkAll(t, z, 79, api.ErrArg, append(slices.Clone(ops[:79]), api.Op{Do: 9})...)
	checkZoo(t, z, s)
	checkAll(t, z, 80, api.OK, ops...)
	s.Rows[5].Values[0] = 1
	checkZoo(t, z, s)
}

// A full zoo fails in the middle of a list and is as it was.
func TestP12Full(t *testing.T) {
	z := zoo.New()
	checkAll(t, z, 60, api.ErrLarge, slices.Repeat([]api.Op{spawn(api.Beast{})}, 61)...)
	checkZoo(t, z, api.State{})
	ops := slices.Repeat([]api.Op{spawn(api.Beast{})}, 60)
	checkAll(t, z, 63, api.OK, append(ops, kill(nth(17)), spawn(beast(1, 2)), adopt(nth(61), nth(60)))...)
	checkGet(t, z, at(16, 1), beast(1, 2), api.OK)
	checkParent(t, z, at(16, 1), at(59, 0), true)
}

// A negative slot denotes an entity of this list, whatever its generation is.
func TestP12NegativeSlots(t *testing.T) {
	for _, gen := range oddNumbers() {
		z, s := sample(t)
		one, two := at(-1, gen), at(-2, gen)
		checkAll(t, z, 7, api.OK,
			spawn(beast(1, 4)), spawn(beast(2, 6)), put(one, 3, 8), drop(two, 1), adopt(two, one), adopt(one, at(7, 0)), loosen(two))
		s.Gens = append(s.Gens, 0)
		s.Rows = slices.Insert(s.Rows, 1, api.Row{Handle: at(1, 7), Beast: api.Beast{Kinds: 9, Values: [8]int{0: 4, 3: 8}}})
		s.Rows = append(s.Rows, api.Row{Handle: at(8, 0)})
		s.Bonds = slices.Insert(s.Bonds, 1, bond(at(1, 7), at(7, 0)))
		checkZoo(t, z, s)
	}
}

// The count of Spawns begins anew with each list, and Do has none.
func TestP12NegativeSlotsOfOtherLists(t *testing.T) {
	z := zoo.New()
	checkAll(t, z, 2, api.OK, spawn(beast(1, 1)), spawn(beast(1, 2)))
	checkDo(t, z, spawn(beast(1, 3)), at(2, 0), api.OK)
	s := z.State()
	checkAll(t, z, 0, api.ErrNone, kill(nth(1)))
	checkAll(t, z, 1, api.ErrNone, spawn(beast(1, 4)), kill(nth(2)))
	checkDo(t, z, kill(nth(1)), api.Handle{}, api.ErrDead)
	checkZoo(t, z, s)
	checkAll(t, z, 2, api.OK, spawn(beast(1, 4)), put(nth(1), 0, 9))
	checkGet(t, z, at(3, 0), beast(1, 9), api.OK)
}

// An entity that was spawned and killed in the list keeps its number, and its
// handle is dead even if another one has the slot.
func TestP12NegativeSlotsOfKilledEntities(t *testing.T) {
	z := zoo.New()
	checkAll(t, z, 2, api.ErrDead, spawn(beast(1, 1)), kill(nth(1)), put(nth(1), 0, 0))
	checkAll(t, z, 3, api.ErrDead, spawn(beast(1, 1)), kill(nth(1)), spawn(beast(1, 2)), put(nth(1), 0, 0))
	checkZoo(t, z, api.State{})
	checkAll(t, z, 4, api.OK, spawn(beast(1, 1)), kill(nth(1)), spawn(beast(1, 2)), put(nth(2), 0, 7))
	checkZoo(t, z, api.State{Gens: []int{1}, Rows: []api.Row{{Handle: at(0, 1), Beast: beast(1, 7)}}})
}

func TestP12NoSuchSpawn(t *testing.T) {
	z, s := sample(t)
	for _, n := range oddNumbers() {
		if n > -2 {
			continue
		}
		h := at(n, 0)
		for _, op := range []api.Op{kill(h), put(h, 8, most+1), drop(h, 8), loosen(h), adopt(h, at(7, 0)), adopt(at(7, 0), h), adopt(h, h)} {
			checkAll(t, z, 1, api.ErrNone, spawn(api.Beast{}), op, spawn(api.Beast{}))
			checkAll(t, z, 0, api.ErrNone, op, spawn(api.Beast{}))
		}
		// This precedes the errors of the operation itself.
		checkAll(t, z, 0, api.ErrNone, adopt(h, at(7, 1)))
		checkAll(t, z, 0, api.ErrNone, adopt(at(7, 1), h))
	}
	checkZoo(t, z, s)
}

// A handle that the operation does not use is not examined.
func TestP12UnusedHandles(t *testing.T) {
	for _, n := range oddNumbers() {
		z, s := sample(t)
		ops := []api.Op{
			spawn(api.Beast{}), kill(at(7, 0)), put(at(2, 0), 0, 3), drop(at(2, 0), 1), adopt(at(0, 4), at(6, 3)), loosen(at(0, 4)),
		}
		ops[0].At = at(n, n)
		for i := range ops {
			if ops[i].Do != api.Adopt {
				ops[i].To = at(n, n)
			}
		}
		checkAll(t, z, 6, api.OK, ops...)
		s = without(s, 7)
		s.Rows[1].Kinds, s.Rows[1].Values = 1, [8]int{3}
		s.Rows = slices.Insert(s.Rows, 1, api.Row{Handle: at(1, 7)})
		s.Bonds = s.Bonds[1:]
		checkZoo(t, z, s)
		checkAll(t, z, 0, api.ErrArg, api.Op{Do: 7, At: at(n, n), To: at(n, n)})
	}
}

func TestP13Rows(t *testing.T) {
	z, s := sample(t)
	for _, q := range []api.Query{{}, {Need: 1}, {Need: 3, Not: 4}, {Any: 192}, {Not: 255}, {Need: 1, Not: 1}, {Need: 255}} {
		checkRows(t, z, q, slices.DeleteFunc(slices.Clone(s.Rows), func(r api.Row) bool { return !mask.Matches(r.Kinds, q) }), api.OK)
	}
	for _, n := range oddNumbers() {
		if n < 0 || n > 255 {
			for _, q := range []api.Query{{Need: n}, {Not: n}, {Any: n}} {
				checkRows(t, z, q, nil, api.ErrArg)
			}
		}
	}
}

func TestP13GetAndParent(t *testing.T) {
	z, s := sample(t)
	checkGet(t, z, at(6, 3), beast(255, 610), api.OK)
	checkParent(t, z, at(3, 2), at(5, 1), true)
	checkParent(t, z, at(6, 3), api.Handle{}, false)
	for _, h := range deadHandles(s) {
		checkGet(t, z, h, api.Beast{}, api.ErrDead)
		checkParent(t, z, h, api.Handle{}, false)
	}
}

func TestP13Load(t *testing.T) {
	z, s := sample(t)
	checkZoo(t, z, s)
	checkZoo(t, load(t, z.State()), s)
	// Neither rows nor bonds need be in order.
	mixed := clone(s)
	slices.Reverse(mixed.Rows)
	slices.Reverse(mixed.Bonds)
	checkZoo(t, load(t, mixed), s)
	checkZoo(t, load(t, api.State{Gens: []int{lastGen, 0, 3}}), api.State{Gens: []int{lastGen, 0, 3}})
}

func TestP13LoadWorldErrors(t *testing.T) {
	_, s := sample(t)
	change := func(f func(s *api.State)) api.State {
		x := clone(s)
		f(&x)
		return x
	}
	checkLoadError(t, api.State{Rows: make([]api.Row, 61)}, api.ErrLarge)
	checkLoadError(t, api.State{Gens: make([]int, 61)}, api.ErrLarge)
	checkLoadError(t, change(func(s *api.State) { s.Gens[1] = -1 }), api.ErrArg)
	checkLoadError(t, change(func(s *api.State) { s.Gens[1] = lastGen + 1 }), api.ErrArg)
	checkLoadError(t, change(func(s *api.State) { s.Rows[2].Slot = 8 }), api.ErrNone)
	checkLoadError(t, change(func(s *api.State) { s.Rows[2].Slot = -1 }), api.ErrNone)
	checkLoadError(t, change(func(s *api.State) { s.Rows[2] = s.Rows[1] }), api.ErrTwice)
	checkLoadError(t, change(func(s *api.State) { s.Rows[2].Slot, s.Rows[2].Gen = 4, lastGen }), api.ErrArg)
	checkLoadError(t, change(func(s *api.State) { s.Rows[2].Gen++ }), api.ErrDead)
	checkLoadError(t, change(func(s *api.State) { s.Rows[2].Kinds = 256 }), api.ErrArg)
	checkLoadError(t, change(func(s *api.State) { s.Rows[2].Values[7] = 1 }), api.ErrForm)
	// These precede the errors of the bonds.
	checkLoadError(t, change(func(s *api.State) {
		s.Bonds[0].Child = at(9, 9)
		s.Rows[5].Values[7] = 1
	}), api.ErrForm)
}

func TestP13LoadBondErrors(t *testing.T) {
	_, s := sample(t)
	with := func(bonds ...api.Bond) api.State {
		x := clone(s)
		x.Bonds = append(x.Bonds, bonds...)
		return x
	}
	for _, h := range deadHandles(s) {
		checkLoadError(t, with(bond(h, at(7, 0))), api.ErrDead)
		checkLoadError(t, with(bond(at(7, 0), h)), api.ErrDead)
		checkLoadError(t, with(bond(at(0, 4), h)), api.ErrDead) // precedes ErrTwice
		checkLoadError(t, with(bond(h, h)), api.ErrDead)        // precedes ErrLoop
	}
	checkLoadError(t, with(bond(at(0, 4), at(7, 0))), api.ErrTwice)
	checkLoadError(t, with(bond(at(0, 4), at(2, 0))), api.ErrTwice) // the same parent
	checkLoadError(t, with(bond(at(0, 4), at(0, 4))), api.ErrTwice) // precedes ErrLoop
	checkLoadError(t, with(bond(at(2, 0), at(3, 2))), api.ErrTwice)
	checkLoadError(t, with(bond(at(7, 0), at(7, 0))), api.ErrLoop)
	checkLoadError(t, with(bond(at(6, 3), at(3, 2))), api.ErrLoop)
	// The error of the first bond is returned.
	checkLoadError(t, with(bond(at(6, 3), at(3, 2)), bond(at(9, 9), at(7, 0))), api.ErrLoop)
	checkLoadError(t, with(bond(at(0, 4), at(7, 0)), bond(at(9, 9), at(7, 0))), api.ErrTwice)
	checkLoadError(t, with(bond(at(9, 9), at(7, 0)), bond(at(0, 4), at(7, 0))), api.ErrDead)
}

// model is a zoo of plain maps.
type model struct {
	gens    []int
	beasts  map[api.Handle]api.Beast
	parents map[api.Handle]api.Handle
}

func newModel() *model {
	return &model{beasts: map[api.Handle]api.Beast{}, parents: map[api.Handle]api.Handle{}}
}

func (m *model) copy() *model {
	return &model{slices.Clone(m.gens), maps.Clone(m.beasts), maps.Clone(m.parents)}
}

func (m *model) live(h api.Handle) bool {
	_, ok := m.beasts[h]
	return ok
}

// within reports whether h is x or a descendant of x.
func (m *model) within(h, x api.Handle) bool {
	if h == x {
		return true
	}
	p, ok := m.parents[h]
	return ok && m.within(p, x)
}

func (m *model) spawn(b api.Beast) (api.Handle, api.Errno) {
	if e := mask.CheckBeast(b); e != api.OK {
		return api.Handle{}, e
	}
	for i, g := range m.gens {
		if !m.live(at(i, g)) && g < lastGen {
			m.beasts[at(i, g)] = b
			return at(i, g), api.OK
		}
	}
	if len(m.gens) == 60 {
		return api.Handle{}, api.ErrLarge
	}
	m.gens = append(m.gens, 0)
	h := at(len(m.gens)-1, 0)
	m.beasts[h] = b
	return h, api.OK
}

func (m *model) kill(h api.Handle) {
	var gone []api.Handle
	for x := range m.beasts {
		if m.within(x, h) {
			gone = append(gone, x)
		}
	}
	for _, x := range gone {
		delete(m.beasts, x)
		delete(m.parents, x)
		m.gens[x.Slot]++
	}
}

func (m *model) put(h api.Handle, kind, n int) api.Errno {
	if kind < 0 || kind > 7 || n < -most || n > most {
		return api.ErrArg
	}
	b := m.beasts[h]
	b.Kinds |= 1 << kind
	b.Values[kind] = n
	m.beasts[h] = b
	return api.OK
}

func (m *model) drop(h api.Handle, kind int) api.Errno {
	if kind < 0 || kind > 7 {
		return api.ErrArg
	}
	b := m.beasts[h]
	if b.Kinds>>kind&1 == 0 {
		return api.ErrNone
	}
	b.Kinds -= 1 << kind
	b.Values[kind] = 0
	m.beasts[h] = b
	return api.OK
}

func (m *model) do(op api.Op) (api.Handle, api.Errno) {
	var none api.Handle
	if op.Do < 1 || op.Do > 6 {
		return none, api.ErrArg
	}
	if op.Do == api.Spawn {
		return m.spawn(op.Beast)
	}
	if !m.live(op.At) || op.Do == api.Adopt && !m.live(op.To) {
		return none, api.ErrDead
	}
	switch op.Do {
	case api.Kill:
		m.kill(op.At)
	case api.Put:
		return none, m.put(op.At, op.Kind, op.N)
	case api.Drop:
		return none, m.drop(op.At, op.Kind)
	case api.Adopt:
		if m.within(op.To, op.At) {
			return none, api.ErrLoop
		}
		m.parents[op.At] = op.To
	case api.Loosen:
		if _, ok := m.parents[op.At]; !ok {
			return none, api.ErrNone
		}
		delete(m.parents, op.At)
	}
	return none, api.OK
}

func (m *model) all(ops []api.Op) (int, api.Errno) {
	x := m.copy()
	spawned := map[int]api.Handle{} // by the slot that denotes it
	for i, op := range ops {
		at, known := spawned[op.At.Slot]
		if op.Do > 1 && op.Do < 7 && op.At.Slot < 0 {
			if op.At = at; !known {
				return i, api.ErrNone
			}
		}
		to, known := spawned[op.To.Slot]
		if op.Do == api.Adopt && op.To.Slot < 0 {
			if op.To = to; !known {
				return i, api.ErrNone
			}
		}
		h, e := x.do(op)
		if e != api.OK {
			return i, e
		}
		if op.Do == api.Spawn {
			spawned[-1-len(spawned)] = h
		}
	}
	*m = *x
	return len(ops), api.OK
}

func (m *model) state() api.State {
	s := api.State{Gens: slices.Clone(m.gens)}
	for i, g := range m.gens {
		if b, ok := m.beasts[at(i, g)]; ok {
			s.Rows = append(s.Rows, api.Row{Handle: at(i, g), Beast: b})
		}
		if p, ok := m.parents[at(i, g)]; ok {
			s.Bonds = append(s.Bonds, bond(at(i, g), p))
		}
	}
	return s
}

// randomOp returns an operation, most often one that can be executed; its
// handles denote entities of a list at times.
func randomOp(r *rand.Rand, m *model) api.Op {
	handle := func() api.Handle {
		switch rows := m.state().Rows; {
		case r.Intn(5) == 0:
			return at(-1-r.Intn(3), r.Intn(2))
		case len(rows) > 0 && r.Intn(12) > 0:
			return rows[r.Intn(len(rows))].Handle
		}
		return at(r.Intn(12), r.Intn(3))
	}
	op := api.Op{Do: []int{1, 1, 1, 2, 3, 4, 5, 5, 5, 5, 6}[r.Intn(11)], At: handle(), To: handle(), Kind: r.Intn(8), N: r.Intn(100)}
	op.Beast = beast(r.Intn(256), r.Intn(100))
	switch r.Intn(40) {
	case 0:
		op.Do = r.Intn(10) - 2
	case 1:
		op.Kind = r.Intn(12) - 2
	case 2:
		op.N = oddNumbers()[r.Intn(len(oddNumbers()))]
	case 3:
		op.Beast.Values[r.Intn(8)] = oddNumbers()[r.Intn(len(oddNumbers()))]
	}
	return op
}

func TestP11P12P13LikeAModel(t *testing.T) {
	seen := map[api.Errno]int{}
	for seed := range int64(60) {
		r := rand.New(rand.NewSource(seed))
		z, m := zoo.New(), newModel()
		for range 100 {
			if r.Intn(2) == 0 {
				op := randomOp(r, m)
				h, e := m.do(op)
				checkDo(t, z, op, h, e)
				seen[e]++
			} else {
				var ops []api.Op
				for range r.Intn(7) {
					ops = append(ops, randomOp(r, m))
				}
				n, e := m.all(ops)
				checkAll(t, z, n, e, ops...)
				seen[e]++
			}
			checkZoo(t, z, m.state())
			if r.Intn(10) == 0 {
				z = load(t, z.State()) // a loaded zoo continues in the same way
			}
		}
	}
	for _, e := range []api.Errno{api.OK, api.ErrArg, api.ErrForm, api.ErrNone, api.ErrDead, api.ErrLoop} {
		if seen[e] < 20 {
			t.Errorf("the error %d occurred only %d times", e, seen[e])
		}
	}
}

// A panic in any of these calls fails the test.
func TestP1NoPanic(t *testing.T) {
	full, s := sample(t)
	for _, z := range []*zoo.Zoo{{}, zoo.New(), full} {
		for _, a := range oddNumbers() {
			for _, b := range oddNumbers() {
				for do := range 8 {
					for _, op := range []api.Op{
						{Do: do, At: at(a, b), To: at(b, a), Kind: a, N: b},
						{Do: do, At: at(7, 0), To: at(a, b), Kind: b, N: a, Beast: api.Beast{Kinds: a, Values: [8]int{a, b}}},
					} {
						z.Do(op)
						z.All([]api.Op{op, op})
						z.All([]api.Op{spawn(api.Beast{}), op})
					}
				}
				z.Get(at(a, b))
				z.Parent(at(a, b))
				z.Rows(api.Query{Need: a, Not: b, Any: a})
				zoo.Load(api.State{Gens: []int{a}, Rows: []api.Row{{Handle: at(b, a)}}})
				zoo.Load(api.State{Gens: s.Gens, Rows: s.Rows, Bonds: []api.Bond{bond(at(a, b), at(7, 0)), bond(at(7, 0), at(b, a))}})
			}
			zoo.Load(api.State{Bonds: []api.Bond{bond(at(a, a), at(a, a))}})
			z.Do(api.Op{Do: a})
			z.State()
		}
		z.All(nil)
	}
}

// What the zoo takes over from its parts does not make its own functions panic.
func TestP1NoPanicAfterOtherFunctions(t *testing.T) {
	z, _ := sample(t)
	z.Free(at(5, 1))
	z.Take()
	z.Gone(at(2, 0))
	z.World.Kill(at(6, 3))
	z.Family.Adopt(at(30, 0), at(31, 0))
	z.All([]api.Op{spawn(api.Beast{})})
	for slot := range 9 {
		for gen := range 5 {
			z.Do(put(at(slot, gen), 0, 1))
			z.Do(kill(at(slot, gen)))
		}
	}
	z.State()
}

// The zoo's own Kill, Adopt and Loosen are those of its operations.
func TestP11KillAdoptAndLoosenAsMethods(t *testing.T) {
	z, s := sample(t)
	if e := z.Adopt(at(7, 0), at(9, 9)); e != api.ErrDead {
		t.Errorf("Adopt = %d; want %d", e, api.ErrDead)
	}
	if e := z.Loosen(at(9, 9)); e != api.ErrDead {
		t.Errorf("Loosen = %d; want %d", e, api.ErrDead)
	}
	checkZoo(t, z, s)
	if e := z.Kill(at(2, 0)); e != api.OK {
		t.Errorf("Kill = %d; want 0", e)
	}
	checkZoo(t, z, without(s, 0, 2, 3, 5))
}

func TestP2ArgumentsStayAsTheyAre(t *testing.T) {
	z, s := sample(t)
	room := make([]api.Op, 10)
	for i := range room {
		room[i] = adopt(at(-1, i), at(-2, i))
	}
	room[0], room[1], room[2] = spawn(beast(3, 1)), spawn(beast(3, 2)), adopt(nth(2), at(7, 0))
	was := slices.Clone(room)
	checkAll(t, z, 4, api.OK, room[:4]...)
	checkAll(t, z, 3, api.ErrArg, append(slices.Clone(room[:3]), api.Op{})...)
	if !slices.Equal(room, was) {
		t.Errorf("All has changed its argument: %v; want %v", room, was)
	}

	wide := api.State{Gens: append(s.Gens, -9, -9)[:8], Rows: append(s.Rows, row(9, 9, 9))[:6], Bonds: append(s.Bonds, bond(at(9, 9), at(9, 9)))[:4]}
	slices.Reverse(wide.Rows)
	slices.Reverse(wide.Bonds)
	kept := clone(wide)
	y := load(t, wide)
	checkAll(t, y, 3, api.OK, spawn(api.Beast{}), kill(at(6, 3)), spawn(api.Beast{}))
	if !equal(wide, kept) || wide.Gens[:10][8] != -9 || wide.Rows[:7][6] != row(9, 9, 9) || wide.Bonds[:5][4] != bond(at(9, 9), at(9, 9)) {
		t.Errorf("Load or a zoo has changed the state: %v; want %v", wide, kept)
	}
}

// spoil overwrites a state, with all its capacity.
func spoil(s api.State) {
	for i := range s.Gens[:cap(s.Gens)] {
		s.Gens[:cap(s.Gens)][i] = -9
	}
	for i := range s.Rows[:cap(s.Rows)] {
		s.Rows[:cap(s.Rows)][i] = row(9, 9, 9)
	}
	for i := range s.Bonds[:cap(s.Bonds)] {
		s.Bonds[:cap(s.Bonds)][i] = bond(at(9, 9), at(9, 9))
	}
}

func TestP2ResultsAreNew(t *testing.T) {
	z, s := sample(t)
	for range 2 {
		one, two := z.State(), z.State()
		rows, _ := z.Rows(api.Query{})
		spoil(one)
		if !equal(two, s) || !slices.Equal(rows, s.Rows) {
			t.Errorf("two results share memory: %v, %v", two, rows)
		}
		spoil(api.State{Rows: rows})
		checkZoo(t, z, s)
	}
}

func TestP2ArgumentsAreNotKept(t *testing.T) {
	_, s := sample(t)
	given := clone(s)
	z := load(t, given)
	spoil(given)
	checkZoo(t, z, s)
	ops := []api.Op{spawn(beast(1, 2)), kill(at(7, 0))}
	checkAll(t, z, 2, api.OK, ops...)
	was := z.State()
	clear(ops)
	checkZoo(t, z, was)
}

func TestP2ResultsStayAsTheyAre(t *testing.T) {
	z, s := sample(t)
	was := z.State()
	checkAll(t, z, 4, api.OK, spawn(beast(1, 1)), put(at(7, 0), 6, 6), loosen(at(0, 4)), kill(at(5, 1)))
	checkDo(t, z, put(at(2, 0), 1, 0), api.Handle{}, api.OK)
	checkDo(t, z, kill(at(6, 3)), api.Handle{}, api.OK)
	if !equal(was, s) {
		t.Errorf("later calls have changed an earlier result: %v; want %v", was, s)
	}
}

func TestP2ZoosAreSeparate(t *testing.T) {
	x, s := sample(t)
	y := load(t, x.State())
	checkDo(t, x, put(at(7, 0), 0, 1), api.Handle{}, api.OK)
	checkAll(t, x, 2, api.OK, kill(at(2, 0)), spawn(api.Beast{}))
	checkZoo(t, y, s)
	checkZoo(t, zoo.New(), api.State{})
}
