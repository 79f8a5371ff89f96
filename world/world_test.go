package world_test

import (
	"cmp"
	"maps"
	"math"
	"math/rand"
	"slices"
	"testing"

	"vivarium/api"
	"vivarium/mask"
	"vivarium/world"
)

const (
	most    = 1000000000
	lastGen = 1000000
)

func at(slot, gen int) api.Handle { return api.Handle{Slot: slot, Gen: gen} }

// beast has the components of kinds, with the values base, base + 1 and so on.
func beast(kinds, base int) api.Beast {
	b := api.Beast{Kinds: kinds}
	for k := range 8 {
		if kinds>>k&1 == 1 {
			b.Values[k] = base + k
		}
	}
	return b
}

func row(slot, gen, kinds int) api.Row {
	return api.Row{Handle: at(slot, gen), Beast: beast(kinds, 100*slot+10)}
}

// oddNumbers are the numbers at which a mistake with signs, shifts or bounds shows.
func oddNumbers() []int {
	return []int{
		math.MinInt, math.MinInt + 1, -most - 1, -most, -256, -255, -8, -2, -1, 0, 1, 2, 3, 7, 8, 9, 59, 60, 61, 63, 64,
		128, 254, 255, 256, 257, lastGen, lastGen + 1, most, most + 1, 1 << 32, 1<<32 + 1, math.MaxInt - 1, math.MaxInt,
	}
}

func checkSpawn(t *testing.T, w *world.World, b api.Beast, want api.Handle, wantErr api.Errno) {
	t.Helper()
	if h, e := w.Spawn(b); h != want || e != wantErr {
		t.Errorf("Spawn(%v) = %v, %d; want %v, %d", b, h, e, want, wantErr)
	}
}

func checkKill(t *testing.T, w *world.World, h api.Handle, want api.Errno) {
	t.Helper()
	if e := w.Kill(h); e != want {
		t.Errorf("Kill(%v) = %d; want %d", h, e, want)
	}
}

func checkPut(t *testing.T, w *world.World, h api.Handle, kind, n int, want api.Errno) {
	t.Helper()
	if e := w.Put(h, kind, n); e != want {
		t.Errorf("Put(%v, %d, %d) = %d; want %d", h, kind, n, e, want)
	}
}

func checkDrop(t *testing.T, w *world.World, h api.Handle, kind int, want api.Errno) {
	t.Helper()
	if e := w.Drop(h, kind); e != want {
		t.Errorf("Drop(%v, %d) = %d; want %d", h, kind, e, want)
	}
}

func checkGet(t *testing.T, w *world.World, h api.Handle, want api.Beast, wantErr api.Errno) {
	t.Helper()
	if b, e := w.Get(h); b != want || e != wantErr {
		t.Errorf("Get(%v) = %v, %d; want %v, %d", h, b, e, want, wantErr)
	}
}

func checkRows(t *testing.T, w *world.World, q api.Query, want []api.Row, wantErr api.Errno) {
	t.Helper()
	if l, e := w.Rows(q); !slices.Equal(l, want) || e != wantErr {
		t.Errorf("Rows(%v) = %v, %d; want %v, %d", q, l, e, want, wantErr)
	}
}

// checkWorld compares all that can be seen of a world without changing it.
func checkWorld(t *testing.T, w *world.World, gens []int, rows ...api.Row) {
	t.Helper()
	if l := w.Gens(); !slices.Equal(l, gens) {
		t.Errorf("Gens() = %v; want %v", l, gens)
	}
	checkRows(t, w, api.Query{}, rows, api.OK)
	live := map[api.Handle]bool{}
	for _, r := range rows {
		checkGet(t, w, r.Handle, r.Beast, api.OK)
		live[r.Handle] = true
	}
	for i, g := range append(slices.Clone(gens), 0) {
		for _, h := range []api.Handle{at(i, g-1), at(i, g), at(i, g+1)} {
			if !live[h] {
				checkGet(t, w, h, api.Beast{}, api.ErrDead)
			}
		}
	}
}

func load(t *testing.T, gens []int, rows ...api.Row) *world.World {
	t.Helper()
	w, e := world.Load(gens, rows)
	if w == nil || e != api.OK {
		t.Fatalf("Load(%v, %v) = %v, %d", gens, rows, w, e)
	}
	return w
}

func checkLoadError(t *testing.T, gens []int, rows []api.Row, want api.Errno) {
	t.Helper()
	if w, e := world.Load(gens, rows); w != nil || e != want {
		t.Errorf("Load(%v, %v) = %v, %d; want nil, %d", gens, rows, w, e, want)
	}
}

// sample has live slots 0, 2, 3 and 5, of three sets.
func sample(t *testing.T) (*world.World, []int, []api.Row) {
	t.Helper()
	gens := []int{4, 7, 0, 2, lastGen, 1}
	rows := []api.Row{row(0, 4, 5), row(2, 0, 3), row(3, 2, 5), row(5, 1, 0)}
	return load(t, gens, rows...), gens, rows
}

// fullRows are the rows of a world in which all 60 slots are live.
func fullRows() ([]int, []api.Row) {
	var rows []api.Row
	for i := range 60 {
		rows = append(rows, row(i, 0, i*37%256))
	}
	return make([]int, 60), rows
}

func TestP8New(t *testing.T) {
	for _, w := range []*world.World{world.New(), {}, load(t, nil)} {
		checkWorld(t, w, nil)
		checkSpawn(t, w, beast(3, 1), at(0, 0), api.OK)
		checkWorld(t, w, []int{0}, api.Row{Beast: beast(3, 1)})
	}
}

func TestP8Spawn(t *testing.T) {
	w := world.New()
	var rows []api.Row
	for i := range 60 {
		r := row(i, 0, i*37%256)
		checkSpawn(t, w, r.Beast, r.Handle, api.OK)
		rows = append(rows, r)
		checkWorld(t, w, make([]int, i+1), rows...)
	}
	checkSpawn(t, w, beast(1, 1), api.Handle{}, api.ErrLarge)
	checkWorld(t, w, make([]int, 60), rows...)
	checkKill(t, w, at(31, 0), api.OK)
	checkSpawn(t, w, rows[31].Beast, at(31, 1), api.OK)
	checkSpawn(t, w, beast(1, 1), api.Handle{}, api.ErrLarge)
}

func TestP8SpawnOfAllSets(t *testing.T) {
	for kinds := range 256 {
		w := world.New()
		checkSpawn(t, w, beast(kinds, -3), at(0, 0), api.OK)
		checkWorld(t, w, []int{0}, api.Row{Beast: beast(kinds, -3)})
	}
}

func TestP8SpawnTakesTheExtremes(t *testing.T) {
	b := api.Beast{Kinds: 255, Values: [8]int{most, -most, 0, 1, -1, most - 1, 1 - most, 7}}
	w := world.New()
	checkSpawn(t, w, b, at(0, 0), api.OK)
	checkWorld(t, w, []int{0}, api.Row{Beast: b})
}

func TestP8SpawnErrors(t *testing.T) {
	w, gens, rows := sample(t)
	for _, n := range oddNumbers() {
		if n < 0 || n > 255 {
			checkSpawn(t, w, api.Beast{Kinds: n}, api.Handle{}, api.ErrArg)
		}
		if n < -most || n > most {
			checkSpawn(t, w, api.Beast{Kinds: 128, Values: [8]int{7: n}}, api.Handle{}, api.ErrArg)
		}
		if n != 0 {
			checkSpawn(t, w, api.Beast{Kinds: 127, Values: [8]int{7: n}}, api.Handle{}, api.ErrForm)
		}
	}
	checkWorld(t, w, gens, rows...)
	checkSpawn(t, w, beast(4, 1), at(1, 7), api.OK)
}

func TestP8SpawnErrorOrder(t *testing.T) {
	gens, rows := fullRows()
	w := load(t, gens, rows...)
	// The error of the entity precedes that of the slots.
	checkSpawn(t, w, api.Beast{Kinds: 256}, api.Handle{}, api.ErrArg)
	checkSpawn(t, w, api.Beast{Values: [8]int{1}}, api.Handle{}, api.ErrForm)
	checkSpawn(t, w, api.Beast{}, api.Handle{}, api.ErrLarge)
	checkWorld(t, w, gens, rows...)
}

func TestP8SpawnTakesTheLowestSlot(t *testing.T) {
	w, _, rows := sample(t)
	checkSpawn(t, w, beast(5, 1), at(1, 7), api.OK)
	// Slot 4 has the last generation and is never used again.
	checkSpawn(t, w, beast(2, 2), at(6, 0), api.OK)
	checkWorld(t, w, []int{4, 7, 0, 2, lastGen, 1, 0}, rows[0], api.Row{Handle: at(1, 7), Beast: beast(5, 1)},
		rows[1], rows[2], rows[3], api.Row{Handle: at(6, 0), Beast: beast(2, 2)})
}

func TestP8Kill(t *testing.T) {
	for i := range 4 {
		w, gens, rows := sample(t)
		h := rows[i].Handle
		checkKill(t, w, h, api.OK)
		gens[h.Slot]++
		rows = slices.Delete(rows, i, i+1)
		checkWorld(t, w, gens, rows...)
		for range 2 {
			checkKill(t, w, h, api.ErrDead)
			checkPut(t, w, h, 0, 0, api.ErrDead)
			checkDrop(t, w, h, 0, api.ErrDead)
			checkGet(t, w, h, api.Beast{}, api.ErrDead)
			checkWorld(t, w, gens, rows...)
		}
	}
}

// When a row is removed, another one of the same set takes its place.
func TestP8KillLeavesTheOthers(t *testing.T) {
	orders := [][]int{{0, 1, 2, 3}, {3, 2, 1, 0}, {1, 3, 0, 2}, {2, 0, 3, 1}}
	for _, order := range orders {
		gens, rows := make([]int, 4), []api.Row{row(0, 0, 9), row(1, 0, 9), row(2, 0, 9), row(3, 0, 9)}
		w := load(t, gens, rows...)
		for _, i := range order {
			checkKill(t, w, at(i, 0), api.OK)
			gens[i]++
			rows = slices.DeleteFunc(rows, func(r api.Row) bool { return r.Slot == i })
			checkWorld(t, w, gens, rows...)
			for j := range rows {
				checkPut(t, w, rows[j].Handle, 3, i, api.OK)
				rows[j].Values[3] = i
				checkWorld(t, w, gens, rows...)
			}
		}
	}
}

func TestP8TheHandleOfAKilledEntityIsDead(t *testing.T) {
	w := world.New()
	for gen := range 20 {
		checkSpawn(t, w, beast(1, gen), at(0, gen), api.OK)
		for old := range gen {
			checkGet(t, w, at(0, old), api.Beast{}, api.ErrDead)
			checkKill(t, w, at(0, old), api.ErrDead)
		}
		checkWorld(t, w, []int{gen}, api.Row{Handle: at(0, gen), Beast: beast(1, gen)})
		checkKill(t, w, at(0, gen), api.OK)
		checkWorld(t, w, []int{gen + 1})
	}
}

func TestP8KillReachesTheLastGeneration(t *testing.T) {
	w := load(t, []int{lastGen - 1}, row(0, lastGen-1, 6))
	checkKill(t, w, at(0, lastGen-1), api.OK)
	checkWorld(t, w, []int{lastGen})
	checkKill(t, w, at(0, lastGen), api.ErrDead)
	checkSpawn(t, w, beast(6, 0), at(1, 0), api.OK)
}

func TestP8DeadHandles(t *testing.T) {
	w, gens, rows := sample(t)
	for _, n := range oddNumbers() {
		for _, h := range []api.Handle{at(n, n), at(n, 0), at(n, 4), at(0, n), at(3, n), at(4, n)} {
			if slices.ContainsFunc(rows, func(r api.Row) bool { return r.Handle == h }) {
				continue
			}
			checkKill(t, w, h, api.ErrDead)
			checkGet(t, w, h, api.Beast{}, api.ErrDead)
			checkPut(t, w, h, 0, 1, api.ErrDead)
			checkDrop(t, w, h, 0, api.ErrDead)
		}
	}
	checkWorld(t, w, gens, rows...)
}

func TestP8PutSetsAValue(t *testing.T) {
	w, gens, rows := sample(t)
	for _, n := range []int{most, -most, 0, 1, -1} {
		for i := range rows {
			for _, k := range mask.List(rows[i].Kinds) {
				checkPut(t, w, rows[i].Handle, k, n, api.OK)
				rows[i].Values[k] = n
				checkWorld(t, w, gens, rows...)
			}
		}
	}
}

func TestP8PutGivesAComponent(t *testing.T) {
	w, gens, rows := sample(t)
	for k := range 8 {
		for i := range rows {
			n := []int{most, -most, 0, 7}[(i+k)%4]
			checkPut(t, w, rows[i].Handle, k, n, api.OK)
			rows[i].Kinds |= 1 << k
			rows[i].Values[k] = n
			checkWorld(t, w, gens, rows...)
		}
	}
	checkRows(t, w, api.Query{Need: 255}, rows, api.OK)
}

func TestP8PutErrors(t *testing.T) {
	w, gens, rows := sample(t)
	for _, n := range oddNumbers() {
		for _, r := range rows {
			if n < 0 || n > 7 {
				checkPut(t, w, r.Handle, n, 1, api.ErrArg)
			}
			if n < -most || n > most {
				checkPut(t, w, r.Handle, 0, n, api.ErrArg)
				checkPut(t, w, r.Handle, 7, n, api.ErrArg)
			}
		}
	}
	// A dead handle precedes the other errors.
	checkPut(t, w, at(1, 7), 8, 0, api.ErrDead)
	checkPut(t, w, at(0, 3), 0, most+1, api.ErrDead)
	checkPut(t, w, at(6, 0), -1, -most-1, api.ErrDead)
	checkWorld(t, w, gens, rows...)
}

func TestP8Drop(t *testing.T) {
	w, gens, rows := sample(t)
	for k := range 8 {
		for i := range rows {
			if rows[i].Kinds>>k&1 == 1 {
				checkDrop(t, w, rows[i].Handle, k, api.OK)
				rows[i].Kinds -= 1 << k
				rows[i].Values[k] = 0
			}
			checkDrop(t, w, rows[i].Handle, k, api.ErrNone)
			checkWorld(t, w, gens, rows...)
		}
	}
	checkRows(t, w, api.Query{Not: 255}, rows, api.OK)
}

func TestP8DropErrors(t *testing.T) {
	w, gens, rows := sample(t)
	for _, n := range oddNumbers() {
		for _, r := range rows {
			if n < 0 || n > 7 {
				checkDrop(t, w, r.Handle, n, api.ErrArg)
			} else if r.Kinds>>n&1 == 0 {
				checkDrop(t, w, r.Handle, n, api.ErrNone)
			}
		}
	}
	// A dead handle precedes the other errors.
	checkDrop(t, w, at(1, 7), 8, api.ErrDead)
	checkDrop(t, w, at(0, 5), -1, api.ErrDead)
	checkDrop(t, w, at(6, 0), 7, api.ErrDead)
	checkWorld(t, w, gens, rows...)
}

// A component that was removed and is given again has no memory of its value.
func TestP8PutAfterDrop(t *testing.T) {
	w := world.New()
	checkSpawn(t, w, beast(6, 40), at(0, 0), api.OK)
	checkDrop(t, w, at(0, 0), 2, api.OK)
	checkGet(t, w, at(0, 0), api.Beast{Kinds: 2, Values: [8]int{1: 41}}, api.OK)
	checkPut(t, w, at(0, 0), 2, 0, api.OK)
	checkGet(t, w, at(0, 0), api.Beast{Kinds: 6, Values: [8]int{1: 41}}, api.OK)
}

func TestP8Rows(t *testing.T) {
	gens, rows := fullRows()
	w := load(t, gens, rows...)
	var queries []api.Query
	for _, a := range []int{0, 1, 6, 128, 129, 255} {
		for _, b := range []int{0, 2, 64, 85, 255} {
			for _, c := range []int{0, 4, 96, 170, 255} {
				queries = append(queries, api.Query{Need: a, Not: b, Any: c})
			}
		}
	}
	for _, q := range queries {
		checkRows(t, w, q, slices.DeleteFunc(slices.Clone(rows), func(r api.Row) bool { return !mask.Matches(r.Kinds, q) }), api.OK)
	}
	checkRows(t, w, api.Query{Need: 1, Not: 1}, nil, api.OK)
}

func TestP8RowsOfAQuery(t *testing.T) {
	w, _, rows := sample(t) // of the sets 5, 3, 5 and 0
	checkRows(t, w, api.Query{Need: 1}, rows[:3], api.OK)
	checkRows(t, w, api.Query{Need: 5}, []api.Row{rows[0], rows[2]}, api.OK)
	checkRows(t, w, api.Query{Not: 4}, []api.Row{rows[1], rows[3]}, api.OK)
	checkRows(t, w, api.Query{Any: 6}, rows[:3], api.OK)
	checkRows(t, w, api.Query{Need: 1, Not: 2, Any: 12}, []api.Row{rows[0], rows[2]}, api.OK)
	checkRows(t, w, api.Query{Need: 8}, nil, api.OK)
}

// The rows are ordered by slots, whatever order the entities came in.
func TestP8RowsByIncreasingSlots(t *testing.T) {
	gens, rows := fullRows()
	mixed := slices.Clone(rows)
	rand.New(rand.NewSource(4)).Shuffle(60, func(i, j int) { mixed[i], mixed[j] = mixed[j], mixed[i] })
	w := load(t, gens, mixed...)
	for range 20 {
		checkRows(t, w, api.Query{}, rows, api.OK)
	}
	for _, i := range []int{50, 3, 27} {
		checkKill(t, w, at(i, 0), api.OK)
		gens[i] = 1
	}
	for _, i := range []int{3, 27, 50} {
		rows[i] = row(i, 1, 9)
		checkSpawn(t, w, rows[i].Beast, rows[i].Handle, api.OK)
	}
	checkWorld(t, w, gens, rows...)
}

func TestP8RowsErrors(t *testing.T) {
	w, gens, rows := sample(t)
	for _, n := range oddNumbers() {
		if n >= 0 && n <= 255 {
			continue
		}
		for _, x := range []*world.World{w, world.New()} {
			checkRows(t, x, api.Query{Need: n}, nil, api.ErrArg)
			checkRows(t, x, api.Query{Not: n}, nil, api.ErrArg)
			checkRows(t, x, api.Query{Any: n}, nil, api.ErrArg)
		}
	}
	checkWorld(t, w, gens, rows...)
}

func TestP9Load(t *testing.T) {
	w, gens, rows := sample(t)
	checkWorld(t, w, gens, rows...)
	checkWorld(t, load(t, []int{3, lastGen}), []int{3, lastGen})
	gens, rows = fullRows()
	checkWorld(t, load(t, gens, rows...), gens, rows...)
	one := row(1, lastGen-1, 200)
	checkWorld(t, load(t, []int{0, lastGen - 1}, one), []int{0, lastGen - 1}, one)
	checkWorld(t, load(t, []int{lastGen, lastGen - 1}, one), []int{lastGen, lastGen - 1}, one)
}

func TestP9LoadTakesRowsInAnyOrder(t *testing.T) {
	_, gens, rows := sample(t)
	for _, order := range [][]int{{3, 2, 1, 0}, {1, 0, 3, 2}, {2, 3, 0, 1}} {
		var mixed []api.Row
		for _, i := range order {
			mixed = append(mixed, rows[i])
		}
		checkWorld(t, load(t, gens, mixed...), gens, rows...)
	}
}

func TestP9LoadErrors(t *testing.T) {
	fullGens, full := fullRows()
	checkLoadError(t, fullGens, append(full, full[0]), api.ErrLarge)
	checkLoadError(t, fullGens, append(full, row(60, 0, 0)), api.ErrLarge)
	checkLoadError(t, make([]int, 61), nil, api.ErrLarge)
	checkLoadError(t, []int{0, -1}, nil, api.ErrArg)
	checkLoadError(t, []int{lastGen + 1}, nil, api.ErrArg)
	checkLoadError(t, []int{0, lastGen}, []api.Row{row(0, 0, 1), row(1, lastGen, 1)}, api.ErrArg)
	checkLoadError(t, nil, []api.Row{row(0, 0, 1)}, api.ErrNone)
	checkLoadError(t, []int{0, 0}, []api.Row{row(2, 0, 1)}, api.ErrNone)
	checkLoadError(t, []int{0, 0}, []api.Row{row(-1, 0, 1)}, api.ErrNone)
	checkLoadError(t, []int{0, 0}, []api.Row{row(1, 0, 1), row(0, 0, 1), row(1, 0, 2)}, api.ErrTwice)
	checkLoadError(t, []int{0, 0}, []api.Row{row(1, 0, 1), row(1, 1, 1)}, api.ErrTwice)
	for _, n := range oddNumbers() {
		if n != 7 {
			checkLoadError(t, []int{0, 7}, []api.Row{row(0, 0, 1), row(1, n, 1)}, api.ErrDead)
		}
		if n < 0 || n > 255 {
			checkLoadError(t, []int{7}, []api.Row{{Handle: at(0, 7), Beast: api.Beast{Kinds: n}}}, api.ErrArg)
		}
		if n < -most || n > most {
			checkLoadError(t, []int{7}, []api.Row{{Handle: at(0, 7), Beast: api.Beast{Kinds: 2, Values: [8]int{1: n}}}}, api.ErrArg)
		}
		if n != 0 {
			checkLoadError(t, []int{7}, []api.Row{{Handle: at(0, 7), Beast: api.Beast{Kinds: 2, Values: [8]int{7: n}}}}, api.ErrForm)
		}
	}
}

func TestP9LoadErrorOrder(t *testing.T) {
	bad := api.Row{Handle: at(0, 0), Beast: api.Beast{Values: [8]int{1}}}        // ErrForm
	large := api.Row{Handle: at(1, 0), Beast: api.Beast{Kinds: 256}}             // ErrArg
	dead := api.Row{Handle: at(2, 1), Beast: api.Beast{Kinds: -1}}               // ErrDead, before its ErrArg
	last := api.Row{Handle: at(3, lastGen), Beast: api.Beast{Kinds: 1}}          // ErrArg of slots.Load
	none := api.Row{Handle: at(4, 0), Beast: api.Beast{Values: [8]int{0, 0, 1}}} // ErrNone
	gens := []int{0, 0, 0, lastGen}

	many := slices.Repeat([]api.Row{none}, 61)
	checkLoadError(t, make([]int, 61), many, api.ErrLarge)
	checkLoadError(t, []int{-1}, many, api.ErrLarge)
	checkLoadError(t, []int{-1}, many[:60], api.ErrArg)
	checkLoadError(t, gens, []api.Row{bad, dead, bad, last, none}, api.ErrNone)
	checkLoadError(t, gens, []api.Row{bad, dead, bad, last}, api.ErrTwice)
	checkLoadError(t, gens, []api.Row{bad, dead, last}, api.ErrArg)
	// The errors of a row precede those of the next one.
	checkLoadError(t, gens, []api.Row{bad, dead, large}, api.ErrForm)
	checkLoadError(t, gens, []api.Row{dead, bad, large}, api.ErrDead)
	checkLoadError(t, gens, []api.Row{large, bad, dead}, api.ErrArg)
	checkLoadError(t, gens, []api.Row{row(1, 0, 3), dead}, api.ErrDead)
}

// A world that was loaded goes on like the one that it was saved from.
func TestP9LoadContinues(t *testing.T) {
	w, _, _ := sample(t)
	rows, _ := w.Rows(api.Query{})
	x := load(t, w.Gens(), rows...)
	for _, y := range []*world.World{w, x} {
		checkSpawn(t, y, beast(5, 1), at(1, 7), api.OK)
		checkKill(t, y, at(0, 4), api.OK)
		checkSpawn(t, y, beast(5, 2), at(0, 5), api.OK)
		checkPut(t, y, at(3, 2), 1, 9, api.OK)
		checkDrop(t, y, at(2, 0), 0, api.OK)
		checkSpawn(t, y, beast(5, 3), at(6, 0), api.OK)
	}
	rows, _ = w.Rows(api.Query{})
	checkWorld(t, x, w.Gens(), rows...)
}

// model is a plain map from handles to entities, with the generations.
type model struct {
	gens []int
	live map[api.Handle]api.Beast
}

func (m *model) spawn(b api.Beast) (api.Handle, api.Errno) {
	for i, g := range m.gens {
		if _, ok := m.live[at(i, g)]; !ok && g < lastGen {
			m.live[at(i, g)] = b
			return at(i, g), api.OK
		}
	}
	if len(m.gens) == 60 {
		return api.Handle{}, api.ErrLarge
	}
	h := at(len(m.gens), 0)
	m.gens = append(m.gens, 0)
	m.live[h] = b
	return h, api.OK
}

func (m *model) kill(h api.Handle) api.Errno {
	if _, ok := m.live[h]; !ok {
		return api.ErrDead
	}
	delete(m.live, h)
	m.gens[h.Slot]++
	return api.OK
}

func (m *model) put(h api.Handle, kind, n int) api.Errno {
	b, ok := m.live[h]
	switch {
	case !ok:
		return api.ErrDead
	case kind < 0 || kind > 7 || n < -most || n > most:
		return api.ErrArg
	}
	b.Kinds |= 1 << kind
	b.Values[kind] = n
	m.live[h] = b
	return api.OK
}

func (m *model) drop(h api.Handle, kind int) api.Errno {
	b, ok := m.live[h]
	switch {
	case !ok:
		return api.ErrDead
	case kind < 0 || kind > 7:
		return api.ErrArg
	case b.Kinds>>kind&1 == 0:
		return api.ErrNone
	}
	b.Kinds -= 1 << kind
	b.Values[kind] = 0
	m.live[h] = b
	return api.OK
}

func (m *model) rows(q api.Query) []api.Row {
	var l []api.Row
	for _, h := range slices.SortedFunc(maps.Keys(m.live), func(a, b api.Handle) int { return cmp.Compare(a.Slot, b.Slot) }) {
		if mask.Matches(m.live[h].Kinds, q) {
			l = append(l, api.Row{Handle: h, Beast: m.live[h]})
		}
	}
	return l
}

// handle returns one that is live, or was, or never will be.
func (m *model) handle(r *rand.Rand) api.Handle {
	i := r.Intn(len(m.gens) + 1)
	if i == len(m.gens) {
		return at(i, 0)
	}
	return at(i, m.gens[i]-r.Intn(8)/7)
}

func TestP8LikeAModel(t *testing.T) {
	for seed := range int64(40) {
		r := rand.New(rand.NewSource(seed))
		w, m := world.New(), &model{live: map[api.Handle]api.Beast{}}
		sets := 1 << (1 + r.Intn(8)) // few sets make large tables
		for i := range 300 {
			h, kind, n := m.handle(r), r.Intn(10)-1, r.Intn(2*most+3)-most-1
			switch r.Intn(8) {
			case 0, 1, 2:
				b := beast(r.Intn(sets), r.Intn(1000))
				want, wantErr := m.spawn(b)
				checkSpawn(t, w, b, want, wantErr)
			case 3:
				checkKill(t, w, h, m.kill(h))
			case 4, 5:
				checkPut(t, w, h, kind, n, m.put(h, kind, n))
			case 6, 7:
				checkDrop(t, w, h, kind, m.drop(h, kind))
			}
			q := api.Query{Need: 1 << r.Intn(8), Not: r.Intn(256) & r.Intn(256), Any: r.Intn(256)}
			checkRows(t, w, q, m.rows(q), api.OK)
			checkWorld(t, w, m.gens, m.rows(api.Query{})...)
			if i%100 == 99 {
				rows, _ := w.Rows(api.Query{})
				w = load(t, w.Gens(), rows...)
			}
		}
	}
}

// A panic in any of these calls fails the test.
func TestP1NoPanic(t *testing.T) {
	for _, a := range oddNumbers() {
		for _, b := range oddNumbers() {
			full, _, _ := sample(t)
			for _, w := range []*world.World{{}, world.New(), full} {
				for _, h := range []api.Handle{at(a, b), at(0, b), at(a, 0), at(0, 4)} {
					w.Get(h)
					w.Put(h, a, b)
					w.Put(h, b, a)
					w.Drop(h, a)
					w.Kill(h)
				}
				w.Spawn(api.Beast{Kinds: a, Values: [8]int{b, a}})
				w.Spawn(api.Beast{Kinds: b})
				w.Rows(api.Query{Need: a, Not: b})
				w.Rows(api.Query{Any: a, Not: b})
				w.Gens()
			}
			world.Load([]int{a, b}, []api.Row{row(a, b, 1), row(b, a, 2)})
			world.Load([]int{a, b}, []api.Row{row(0, a, 1), row(1, b, 2)})
			world.Load([]int{0, b}, []api.Row{{Handle: at(0, 0), Beast: api.Beast{Kinds: a, Values: [8]int{b}}}})
			world.Load(nil, []api.Row{row(a, b, 0)})
		}
	}
	world.Load(nil, nil)
	world.Load(make([]int, 1000), make([]api.Row, 1000))
}

// Take and Free come with the embedded slots; a caller's use of them alone does
// not make the other methods panic.
func TestP1NoPanicAfterTakeOrFree(t *testing.T) {
	w, _, _ := sample(t)
	h, _ := w.Take()
	w.Free(at(3, 2))
	for _, h := range []api.Handle{h, at(3, 2), at(3, 3), at(0, 4)} {
		w.Get(h)
		w.Put(h, 0, 1)
		w.Put(h, 6, 1)
		w.Drop(h, 0)
		w.Spawn(beast(5, 1))
		w.Rows(api.Query{})
		w.Kill(h)
		w.Kill(h)
	}
}

func TestP2LoadLeavesItsArguments(t *testing.T) {
	_, gens, rows := sample(t)
	gens, rows = append(gens, 77)[:6], append(rows, row(77, 77, 77))[:4]
	wantGens, wantRows := slices.Clone(gens[:7]), slices.Clone(rows[:5])
	w := load(t, gens, rows...)
	for range 50 {
		w.Spawn(beast(5, 1))
	}
	w.Kill(at(0, 4))
	w.Put(at(2, 0), 0, 99)
	if !slices.Equal(gens[:7], wantGens) || !slices.Equal(rows[:5], wantRows) {
		t.Errorf("Load or a later call has changed its arguments: %v, %v", gens[:7], rows[:5])
	}
}

func TestP2LoadDoesNotRetainItsArguments(t *testing.T) {
	w, gens, rows := sample(t)
	wantGens, wantRows := slices.Clone(gens), slices.Clone(rows)
	clear(gens)
	clear(rows)
	checkWorld(t, w, wantGens, wantRows...)
}

func TestP2ResultsAreNew(t *testing.T) {
	w, gens, rows := sample(t)
	for range 2 {
		g, otherGens := w.Gens(), w.Gens()
		l, _ := w.Rows(api.Query{})
		other, _ := w.Rows(api.Query{})
		g, l = g[:cap(g)], l[:cap(l)]
		for i := range g {
			g[i] = -9
		}
		for i := range l {
			l[i] = row(-9, -9, -9)
		}
		if !slices.Equal(otherGens, gens) || !slices.Equal(other, rows) {
			t.Errorf("two results share memory: %v, %v", otherGens, other)
		}
		checkWorld(t, w, gens, rows...)
	}
}

func TestP2ResultsStayAsTheyAre(t *testing.T) {
	w, wantGens, wantRows := sample(t)
	gens := w.Gens()
	rows, _ := w.Rows(api.Query{})
	checkPut(t, w, at(0, 4), 0, 77, api.OK)
	checkDrop(t, w, at(3, 2), 2, api.OK)
	checkKill(t, w, at(2, 0), api.OK)
	checkSpawn(t, w, beast(5, 1), at(1, 7), api.OK)
	if !slices.Equal(gens, wantGens) || !slices.Equal(rows, wantRows) {
		t.Errorf("later calls have changed earlier results: %v, %v", gens, rows)
	}
}

func TestP2WorldsAreSeparate(t *testing.T) {
	x, gens, rows := sample(t)
	y := load(t, gens, rows...)
	checkKill(t, x, at(0, 4), api.OK)
	checkPut(t, x, at(2, 0), 0, 77, api.OK)
	checkSpawn(t, x, beast(5, 1), at(0, 5), api.OK)
	checkWorld(t, y, gens, rows...)
	checkWorld(t, world.New(), nil)
	checkLoadError(t, gens, append(rows, row(0, 4, 1)), api.ErrTwice)
	checkWorld(t, load(t, gens, rows...), gens, rows...)
}
