package diff_test

import (
	"math"
	"math/rand"
	"slices"
	"testing"

	"vivarium/api"
	"vivarium/diff"
	"vivarium/zoo"
)

const (
	most    = 1000000000
	lastGen = 1000000
)

func at(slot, gen int) api.Handle { return api.Handle{Slot: slot, Gen: gen} }

func beast(kinds int, values ...int) api.Beast {
	b := api.Beast{Kinds: kinds}
	copy(b.Values[:], values)
	return b
}

func row(slot, gen, kinds int, values ...int) api.Row {
	return api.Row{Handle: at(slot, gen), Beast: beast(kinds, values...)}
}

// none returns the beast that stands for no entity.
func none() api.Beast { return beast(-1) }

func change(h api.Handle, old, now api.Beast) api.Change {
	return api.Change{At: h, Old: old, Now: now}
}

func comes(r api.Row) api.Change { return change(r.Handle, none(), r.Beast) }

func goes(r api.Row) api.Change { return change(r.Handle, r.Beast, none()) }

// oddNumbers are the numbers at which a mistake with signs or bounds shows.
func oddNumbers() []int {
	return []int{
		math.MinInt, math.MinInt + 1, -most - 1, -most, -256, -8, -2, -1, 0, 1, 2, 7, 8, 59, 60, 61,
		255, 256, lastGen, lastGen + 1, most, most + 1, 1 << 32, 1<<32 + 1, math.MaxInt - 1, math.MaxInt,
	}
}

func checkBetween(t *testing.T, a, b []api.Row, want ...api.Change) {
	t.Helper()
	if c, e := diff.Between(a, b); !slices.Equal(c, want) || e != api.OK {
		t.Errorf("Between(%v, %v) = %v, %d; want %v, 0", a, b, c, e, want)
	}
}

func checkBetweenError(t *testing.T, a, b []api.Row) {
	t.Helper()
	if c, e := diff.Between(a, b); c != nil || e != api.ErrForm {
		t.Errorf("Between(%v, %v) = %v, %d; want nil, %d", a, b, c, e, api.ErrForm)
	}
}

func checkApply(t *testing.T, l []api.Row, c []api.Change, want ...api.Row) {
	t.Helper()
	if r, e := diff.Apply(l, c); !slices.Equal(r, want) || e != api.OK {
		t.Errorf("Apply(%v, %v) = %v, %d; want %v, 0", l, c, r, e, want)
	}
}

func checkApplyError(t *testing.T, l []api.Row, c []api.Change, want api.Errno) {
	t.Helper()
	if r, e := diff.Apply(l, c); r != nil || e != want {
		t.Errorf("Apply(%v, %v) = %v, %d; want nil, %d", l, c, r, e, want)
	}
}

func checkInvert(t *testing.T, c []api.Change, want ...api.Change) {
	t.Helper()
	if l := diff.Invert(c); !slices.Equal(l, want) {
		t.Errorf("Invert(%v) = %v; want %v", c, l, want)
	}
}

// sample returns two lists and the changes between them: one entity has other
// values, one has more components and one fewer; one goes and one comes; slots
// are used again, with a later generation and with an earlier one; the others
// stay.
func sample() (a, b []api.Row, c []api.Change) {
	a = []api.Row{
		row(0, 4, 5, -1, 0, 9), row(1, 0, 0), row(2, 7, 1, 3), row(4, 1, 3, 1, 2), row(7, 3, 2, 0, 8),
		row(20, 9, 255, 1, 2, 3, 4, 5, 6, 7, 8), row(30, 2, 0), row(59, lastGen, 128, 0, 0, 0, 0, 0, 0, 0, most),
	}
	b = []api.Row{
		row(0, 4, 5, -1, 0, 10), row(1, 0, 1), row(2, 7, 1, 3), row(4, 1, 2, 0, 2), row(9, 0, 4, 0, 0, -5),
		row(20, 10, 255, 1, 2, 3, 4, 5, 6, 7, 8), row(30, 1, 0), row(59, lastGen, 128, 0, 0, 0, 0, 0, 0, 0, most),
	}
	c = []api.Change{
		change(at(0, 4), a[0].Beast, b[0].Beast), change(at(1, 0), a[1].Beast, b[1].Beast), change(at(4, 1), a[3].Beast, b[3].Beast),
		goes(a[4]), comes(b[4]), goes(a[5]), comes(b[5]), comes(b[6]), goes(a[6]),
	}
	return a, b, c
}

// full returns 60 rows of the generation gen.
func full(gen int) []api.Row {
	l := make([]api.Row, 60)
	for i := range l {
		l[i] = row(i, gen, 1, i)
	}
	return l
}

// validLists are valid lists of rows, with the bounds of what may be in them.
func validLists() [][]api.Row {
	a, b, _ := sample()
	return [][]api.Row{
		nil, {}, a, b, full(0), full(lastGen), {row(0, 0, 0)}, {row(59, lastGen, 0)}, {row(0, lastGen, 0), row(59, 0, 0)}, {row(5, 8, 0), row(6, 7, 0)},
		{row(3, 3, 255, most, -most, most, -most, 0, 0, 0, 0)}, {row(3, 3, 128, 0, 0, 0, 0, 0, 0, 0, -most)}, {row(3, 3, 170, 0, 1, 0, 1, 0, 1, 0, 1)},
	}
}

// invalidRows are rows that no valid list has. Slots 4 and 5 are not among them.
func invalidRows() []api.Row {
	return []api.Row{
		row(-1, 0, 0), row(60, 0, 0), row(61, 0, 0), row(math.MinInt, 0, 0), row(math.MaxInt, 0, 0), row(1<<32, 0, 0),
		row(3, -1, 0), row(3, lastGen+1, 0), row(3, math.MinInt, 0), row(3, math.MaxInt, 0), row(3, 1<<32, 0),
		row(3, 0, -2), row(3, 0, 256), row(3, 0, 1<<32), row(3, 0, 1, most+1), row(3, 0, 1, -most-1), row(3, 0, 1, math.MinInt),
		row(3, 0, 0, 1), row(3, 0, 2, 1, 1), row(3, 0, 127, 0, 0, 0, 0, 0, 0, 0, 1), row(3, 0, -1, 1),
	}
}

// invalidLists are lists of rows that are not valid.
func invalidLists() [][]api.Row {
	lists := [][]api.Row{
		// no entity
		{{Handle: at(0, 0), Beast: none()}}, {row(0, 0, 0), {Handle: at(1, 0), Beast: none()}},
		// too many
		append(full(0), row(60, 0, 0)), append(full(0), full(0)[59]), append(full(0), full(1)...), make([]api.Row, 61), make([]api.Row, 100000),
		// order
		{row(1, 0, 0), row(0, 0, 0)}, {row(0, 0, 0), row(0, 0, 0)}, {row(0, 0, 0), row(0, 1, 0)}, {row(0, 1, 0), row(0, 0, 0)},
		{row(0, 0, 0), row(2, 0, 0), row(1, 0, 0)}, {row(0, 0, 0), row(2, 0, 0), row(2, 0, 0)}, {row(0, 0, 0), row(59, 0, 0), row(0, 1, 0)}, {row(59, 0, 0), row(0, 0, 0)},
	}
	for _, r := range invalidRows() {
		lists = append(lists, []api.Row{r}, []api.Row{row(0, 0, 0), r}, []api.Row{r, row(59, 0, 0)})
	}
	for i := range 7 {
		l, _, _ := sample()
		l[i], l[i+1] = l[i+1], l[i]
		lists = append(lists, l)
	}
	return lists
}

func TestP15Between(t *testing.T) {
	a, b, c := sample()
	checkBetween(t, a, b, c...)
	for _, x := range validLists() {
		var going, coming []api.Change
		for _, r := range x {
			going, coming = append(going, goes(r)), append(coming, comes(r))
		}
		checkBetween(t, x, nil, going...)
		checkBetween(t, nil, x, coming...)
	}
}

func TestP15BetweenEqualLists(t *testing.T) {
	for _, x := range validLists() {
		checkBetween(t, x, x)
		checkBetween(t, x, slices.Clone(x))
	}
}

func TestP15BetweenOneEntity(t *testing.T) {
	old := row(7, 3, 3, 5, 6)
	for _, now := range []api.Row{
		row(7, 3, 3, 5, 7), row(7, 3, 3, 4, 6), row(7, 3, 3, 6, 5), row(7, 3, 1, 5), row(7, 3, 2, 0, 6), row(7, 3, 0), row(7, 3, 3), row(7, 3, 7, 5, 6),
		row(7, 3, 131, 5, 6), row(7, 3, 131, 5, 6, 0, 0, 0, 0, 0, 1), row(7, 3, 6, 0, 5, 6),
	} {
		checkBetween(t, []api.Row{old}, []api.Row{now}, change(at(7, 3), old.Beast, now.Beast))
		checkBetween(t, []api.Row{now}, []api.Row{old}, change(at(7, 3), now.Beast, old.Beast))
	}
	// Without components, an entity is there nevertheless.
	checkBetween(t, nil, []api.Row{row(0, 0, 0)}, change(at(0, 0), none(), beast(0)))
	checkBetween(t, []api.Row{row(0, 0, 0)}, nil, change(at(0, 0), beast(0), none()))
}

// The order is that of slots, then of generations, whether an entity comes or
// goes.
func TestP15BetweenOrder(t *testing.T) {
	early, late := row(5, 2, 1, 1), row(5, 10, 1, 1)
	checkBetween(t, []api.Row{early}, []api.Row{late}, goes(early), comes(late))
	checkBetween(t, []api.Row{late}, []api.Row{early}, comes(early), goes(late))
	low, high := row(2, 9, 0), row(10, 0, 0)
	checkBetween(t, []api.Row{low}, []api.Row{high}, goes(low), comes(high))
	checkBetween(t, []api.Row{high}, []api.Row{low}, comes(low), goes(high))
}

func TestP15BetweenAllSlots(t *testing.T) {
	a, b := full(0), full(lastGen)
	var want []api.Change
	for i := range a {
		want = append(want, goes(a[i]), comes(b[i]))
	}
	checkBetween(t, a, b, want...)
	checkApply(t, a, want, b...)
	checkApply(t, b, diff.Invert(want), a...)
}

func TestP15BetweenErrors(t *testing.T) {
	for _, bad := range invalidLists() {
		for _, good := range validLists() {
			checkBetweenError(t, bad, good)
			checkBetweenError(t, good, bad)
		}
		checkBetweenError(t, bad, bad)
	}
}

func TestP16Apply(t *testing.T) {
	a, b, c := sample()
	checkApply(t, a, c, b...)
	checkApply(t, b, diff.Invert(c), a...)
	for i := range len(c) - 1 {
		r, e := diff.Apply(a, c[:i])
		if e != api.OK {
			t.Errorf("Apply(%v, %v) = %d; want 0", a, c[:i], e)
		}
		checkApply(t, r, c[i:], b...)
	}
	// Without the last change, there are two entities in slot 30.
	checkApplyError(t, a, c[:8], api.ErrForm)
	for _, x := range validLists() {
		checkApply(t, x, nil, x...)
		checkApply(t, x, []api.Change{}, x...)
	}
}

// The changes need not be in the order of handles, the result is.
func TestP16ApplyOrder(t *testing.T) {
	rows := []api.Row{row(0, 3, 1, 1), row(2, 1, 0), row(9, 0, 0), row(10, 5, 0), row(59, 0, 2, 0, 2)}
	for seed := range int64(50) {
		r := rand.New(rand.NewSource(seed))
		var c []api.Change
		for _, i := range r.Perm(len(rows)) {
			c = append(c, comes(rows[i]))
		}
		checkApply(t, nil, c, rows...)
	}
	a, b, c := sample()
	slices.Reverse(c)
	checkApply(t, a, c, b...)
}

// One handle may change several times.
func TestP16ApplySteps(t *testing.T) {
	h := at(3, 4)
	one, two, three := beast(1, 1), beast(1, 2), beast(3, 1, 3)
	l := []api.Row{{Handle: h, Beast: one}}
	checkApply(t, l, []api.Change{change(h, one, two), change(h, two, three)}, api.Row{Handle: h, Beast: three})
	checkApply(t, l, []api.Change{change(h, one, two), change(h, two, one)}, l...)
	checkApply(t, l, []api.Change{change(h, one, none()), change(h, none(), two)}, api.Row{Handle: h, Beast: two})
	checkApply(t, nil, []api.Change{change(h, none(), one), change(h, one, none())})
	checkApplyError(t, l, []api.Change{change(h, one, two), change(h, one, three)}, api.ErrNone)
	checkApplyError(t, l, []api.Change{change(h, one, none()), change(h, one, two)}, api.ErrNone)
	checkApplyError(t, l, []api.Change{change(h, one, two), change(h, none(), two)}, api.ErrNone)
	checkApplyError(t, nil, []api.Change{change(h, none(), one), change(h, none(), one)}, api.ErrNone)
	checkApplyError(t, l, []api.Change{change(h, one, none()), change(h, one, none())}, api.ErrNone)
}

func TestP16ApplyInvalidList(t *testing.T) {
	good := []api.Change{comes(row(30, 0, 0))}
	bad := []api.Change{change(at(0, 0), none(), none())}
	for _, l := range invalidLists() {
		checkApplyError(t, l, nil, api.ErrForm)
		checkApplyError(t, l, good, api.ErrForm)
		checkApplyError(t, l, bad, api.ErrForm)
		checkApplyError(t, l, make([]api.Change, 121), api.ErrForm)
	}
	// Not even changes that would make it valid help.
	two := []api.Row{row(0, 0, 0), row(0, 1, 0)}
	checkApplyError(t, two, []api.Change{goes(two[0])}, api.ErrForm)
}

// blinks returns n changes, of which each second one takes the entity away
// again that the one before it has added.
func blinks(n int) []api.Change {
	var c []api.Change
	for i := range n {
		r := row(i/2%60, 0, 1, i/2)
		if i%2 == 0 {
			c = append(c, comes(r))
		} else {
			c = append(c, goes(r))
		}
	}
	return c
}

func TestP16ApplyLarge(t *testing.T) {
	checkApply(t, nil, blinks(118))
	checkApply(t, nil, blinks(119), row(59, 0, 1, 59))
	checkApply(t, nil, blinks(120))
	for _, n := range []int{121, 122, 1000, 100000} {
		checkApplyError(t, nil, blinks(n), api.ErrLarge)
		checkApplyError(t, full(3), blinks(n), api.ErrLarge)
		// The errors of the changes come after it.
		checkApplyError(t, nil, make([]api.Change, n), api.ErrLarge)
		checkApplyError(t, nil, append(blinks(n-1), change(at(0, 0), beast(5), none())), api.ErrLarge)
	}
	checkApplyError(t, nil, make([]api.Change, 120), api.ErrForm)
	checkApplyError(t, nil, append(blinks(119), comes(row(60, 0, 0))), api.ErrForm)
}

func TestP16ApplySameEntity(t *testing.T) {
	a, _, _ := sample()
	for _, h := range []api.Handle{at(0, 4), at(0, 5), at(1, 0), at(3, 0), at(-1, -1)} {
		for _, b := range []api.Beast{a[0].Beast, none(), beast(0), beast(5), beast(-1, 1), beast(256), beast(-2)} {
			// It precedes ErrNone: the handle need not be there.
			checkApplyError(t, a, []api.Change{change(h, b, b)}, api.ErrForm)
			checkApplyError(t, a, []api.Change{goes(a[3]), change(h, b, b), goes(a[3])}, api.ErrForm)
		}
	}
}

func TestP16ApplyNone(t *testing.T) {
	a, _, _ := sample()
	for _, r := range a {
		now := beast(16, 0, 0, 0, 0, 7)
		checkApplyError(t, a, []api.Change{change(r.Handle, none(), now)}, api.ErrNone)
		checkApplyError(t, a, []api.Change{change(at(r.Slot, r.Gen+1), r.Beast, now)}, api.ErrNone)
		checkApplyError(t, a, []api.Change{change(at(r.Slot, r.Gen-1), r.Beast, none())}, api.ErrNone)
		checkApplyError(t, a, []api.Change{change(at(r.Slot+1, r.Gen), r.Beast, now)}, api.ErrNone)
		checkApplyError(t, a, []api.Change{change(at(r.Slot-1, r.Gen), r.Beast, none())}, api.ErrNone)
		for k := range 8 {
			other := r.Beast
			other.Values[k]++
			checkApplyError(t, a, []api.Change{change(r.Handle, other, now)}, api.ErrNone)
			checkApplyError(t, a, []api.Change{change(r.Handle, other, r.Beast)}, api.ErrNone)
			other = r.Beast
			other.Kinds ^= 1 << k
			checkApplyError(t, a, []api.Change{change(r.Handle, other, none())}, api.ErrNone)
		}
	}
	checkApplyError(t, nil, []api.Change{goes(a[0])}, api.ErrNone)
	checkApplyError(t, nil, []api.Change{{At: at(0, 0), Old: beast(0), Now: none()}}, api.ErrNone)
	// Kinds -1 with values is not how the absence of an entity is represented.
	checkApplyError(t, nil, []api.Change{change(at(0, 0), beast(-1, 1), beast(0))}, api.ErrNone)
	checkApplyError(t, a, []api.Change{change(at(0, 4), beast(-1, 1), none())}, api.ErrNone)
}

func TestP16ApplyInvalidResult(t *testing.T) {
	l := full(0)
	for _, bad := range invalidRows() {
		checkApplyError(t, nil, []api.Change{comes(bad)}, api.ErrForm)
		checkApplyError(t, l, []api.Change{goes(l[3]), comes(bad)}, api.ErrForm)
		if bad.Handle == at(3, 0) {
			checkApplyError(t, l, []api.Change{change(at(3, 0), l[3].Beast, bad.Beast)}, api.ErrForm)
		}
	}
	for gen := range 3 {
		checkApplyError(t, full(1), []api.Change{comes(row(4, 2*gen, 0))}, api.ErrForm)
	}
	checkApplyError(t, nil, []api.Change{comes(row(4, 2, 0)), comes(row(4, 1, 0))}, api.ErrForm)
}

// What is not valid may be there until the end, as long as it is gone then.
func TestP16ApplyInvalidBetweenSteps(t *testing.T) {
	l := []api.Row{row(4, 2, 1, 5), row(5, 0, 0)}
	for _, bad := range append(invalidRows(), row(4, 1, 0), row(4, 3, 1, 5)) {
		checkApply(t, l, []api.Change{comes(bad), goes(bad)}, l...)
		checkApply(t, l, []api.Change{comes(bad), goes(l[0]), goes(l[1]), goes(bad)})
		checkApplyError(t, l, []api.Change{comes(bad)}, api.ErrForm)
		checkApplyError(t, l, []api.Change{comes(bad), comes(bad), goes(bad)}, api.ErrNone)
		// An error of a change precedes that of the result.
		checkApplyError(t, l, []api.Change{comes(bad), goes(row(5, 1, 0))}, api.ErrNone)
	}
	checkApply(t, nil, []api.Change{change(at(3, 0), none(), beast(256)), change(at(3, 0), beast(256), beast(1))}, row(3, 0, 1))
}

// Of several changes with errors, the first one counts.
func TestP16ApplyFirstError(t *testing.T) {
	l := []api.Row{row(4, 2, 1, 5)}
	absent, same := goes(row(9, 9, 0)), change(at(4, 2), l[0].Beast, l[0].Beast)
	checkApplyError(t, l, []api.Change{absent, same}, api.ErrNone)
	checkApplyError(t, l, []api.Change{same, absent}, api.ErrForm)
	checkApplyError(t, l, []api.Change{goes(l[0]), same, absent}, api.ErrForm)
	checkApplyError(t, l, []api.Change{goes(l[0]), absent, same}, api.ErrNone)
}

func TestP16Invert(t *testing.T) {
	one, two, three := beast(1, 1), beast(2, 0, 2), beast(4, 0, 0, 3)
	checkInvert(t, nil)
	checkInvert(t, []api.Change{})
	checkInvert(t, []api.Change{change(at(1, 2), one, two)}, change(at(1, 2), two, one))
	checkInvert(t, []api.Change{change(at(1, 2), none(), one), change(at(1, 3), one, none())}, change(at(1, 3), none(), one), change(at(1, 2), one, none()))
	checkInvert(t, []api.Change{change(at(9, 0), one, two), change(at(3, 1), two, three), change(at(5, 2), three, three)},
		change(at(5, 2), three, three), change(at(3, 1), three, two), change(at(9, 0), two, one))
	// The changes are not examined.
	checkInvert(t, []api.Change{{}, change(at(-1, math.MinInt), beast(-7, 1), beast(256))}, change(at(-1, math.MinInt), beast(256), beast(-7, 1)), api.Change{})
	_, _, c := sample()
	if l := diff.Invert(diff.Invert(c)); !slices.Equal(l, c) {
		t.Errorf("%v, inverted twice, is %v", c, l)
	}
	const many = 100000
	going, coming := make([]api.Change, many), make([]api.Change, many)
	for i := range many {
		going[i], coming[many-1-i] = goes(row(i, 0, 0)), comes(row(i, 0, 0))
	}
	checkInvert(t, going, coming...)
}

func randomBeast(r *rand.Rand) api.Beast {
	b := beast(r.Intn(4))
	for k := range 2 {
		b.Values[k] = (b.Kinds >> k & 1) * r.Intn(2)
	}
	return b
}

// randomRows returns a valid list with few slots, so that two of them have much
// in common.
func randomRows(r *rand.Rand) []api.Row {
	var l []api.Row
	for _, slot := range []int{0, 1, 9, 10, 58, 59} {
		if r.Intn(3) > 0 {
			l = append(l, api.Row{Handle: at(slot, r.Intn(3)), Beast: randomBeast(r)})
		}
	}
	return l
}

// entity returns the entity of a handle in a list.
func entity(l []api.Row, h api.Handle) api.Beast {
	for _, r := range l {
		if r.Handle == h {
			return r.Beast
		}
	}
	return none()
}

// referenceBetween returns the changes in another way than the package: it
// tries all handles in order.
func referenceBetween(a, b []api.Row) []api.Change {
	var c []api.Change
	for slot := range 60 {
		for gen := range 3 {
			h := at(slot, gen)
			if old, now := entity(a, h), entity(b, h); old != now {
				c = append(c, change(h, old, now))
			}
		}
	}
	return c
}

func TestP15RandomLists(t *testing.T) {
	for seed := range int64(5000) {
		r := rand.New(rand.NewSource(seed))
		a, b := randomRows(r), randomRows(r)
		c := referenceBetween(a, b)
		checkBetween(t, a, b, c...)
		checkApply(t, a, c, b...)
		checkApply(t, b, diff.Invert(c), a...)
	}
}

// referenceApply applies changes in another way than the package: to a list,
// which it keeps in order. The random beasts, slots and generations are all
// valid, so that only two entities in one slot can be wrong at the end.
func referenceApply(l []api.Row, c []api.Change) ([]api.Row, api.Errno) {
	l = slices.Clone(l)
	for _, x := range c {
		if x.Old == x.Now {
			return nil, api.ErrForm
		}
		i := slices.IndexFunc(l, func(r api.Row) bool { return r.Handle == x.At })
		switch {
		case x.Old.Kinds == -1 && i >= 0, x.Old.Kinds >= 0 && (i < 0 || l[i].Beast != x.Old):
			return nil, api.ErrNone
		case x.Old.Kinds == -1:
			n := 0
			for n < len(l) && (l[n].Slot < x.At.Slot || l[n].Slot == x.At.Slot && l[n].Gen < x.At.Gen) {
				n++
			}
			l = slices.Insert(l, n, api.Row{Handle: x.At, Beast: x.Now})
		case x.Now.Kinds == -1:
			l = slices.Delete(l, i, i+1)
		default:
			l[i].Beast = x.Now
		}
	}
	for i := range l {
		if i > 0 && l[i].Slot == l[i-1].Slot {
			return nil, api.ErrForm
		}
	}
	return l, api.OK
}

// randomChanges returns changes, most of which can be applied to l one after
// the other.
func randomChanges(r *rand.Rand, l []api.Row) []api.Change {
	var c []api.Change
	for range r.Intn(8) {
		x := change(at(r.Intn(3)*9, r.Intn(3)), none(), none())
		x.Old = entity(l, x.At)
		for _, y := range c {
			if y.At == x.At {
				x.Old = y.Now
			}
		}
		if r.Intn(12) == 0 {
			x.Old = randomBeast(r)
		}
		if x.Old == none() || r.Intn(3) == 0 {
			x.Now = randomBeast(r)
		}
		c = append(c, x)
	}
	return c
}

func TestP16RandomChanges(t *testing.T) {
	seen := map[api.Errno]int{}
	for seed := range int64(20000) {
		r := rand.New(rand.NewSource(seed))
		l := randomRows(r)
		c := randomChanges(r, l)
		want, e := referenceApply(l, c)
		seen[e]++
		if e != api.OK {
			checkApplyError(t, l, c, e)
			continue
		}
		checkApply(t, l, c, want...)
		checkApply(t, want, diff.Invert(c), l...)
	}
	for _, e := range []api.Errno{api.OK, api.ErrForm, api.ErrNone} {
		if seen[e] < 1000 {
			t.Errorf("only %d random changes have the result %d", seen[e], e)
		}
	}
}

// The rows of a zoo are valid lists.
func TestP16ZooRows(t *testing.T) {
	for seed := range int64(200) {
		r := rand.New(rand.NewSource(seed))
		z := zoo.New()
		var before []api.Row
		for range 10 {
			for range r.Intn(30) {
				h := at(r.Intn(20), r.Intn(4))
				z.Do(api.Op{Do: 1 + r.Intn(6), At: h, To: at(r.Intn(20), r.Intn(4)), Kind: r.Intn(8), N: r.Intn(100)})
			}
			after, _ := z.Rows(api.Query{})
			c, e := diff.Between(before, after)
			if e != api.OK {
				t.Errorf("Between(%v, %v) = %d; want 0", before, after, e)
			}
			checkApply(t, before, c, after...)
			checkApply(t, after, diff.Invert(c), before...)
			before = after
		}
	}
}

// A panic in any of these calls fails the test.
func TestP1NoPanic(t *testing.T) {
	a, b, c := sample()
	for _, m := range oddNumbers() {
		for _, n := range oddNumbers() {
			rows := [][]api.Row{{row(m, n, 0)}, {row(0, 0, m, n, n, n, n, n, n, n, n)}, append(slices.Clone(a), row(m, n, 0))}
			for _, l := range rows {
				diff.Between(l, b)
				diff.Between(b, l)
				diff.Apply(l, c)
			}
			changes := []api.Change{change(at(m, n), none(), beast(0)), change(at(m, n), beast(m, n), beast(n, m)), change(at(0, 4), a[0].Beast, beast(m, n, n)), {}}
			for i := range changes {
				diff.Apply(a, changes[i:])
				diff.Invert(changes[i:])
			}
		}
	}
	diff.Between(make([]api.Row, 100000), make([]api.Row, 100000))
	diff.Apply(make([]api.Row, 100000), make([]api.Change, 100000))
	diff.Invert(make([]api.Change, 100000))
}

func spoilRows(l []api.Row) {
	l = l[:cap(l)]
	for i := range l {
		l[i] = row(9, 9, 9, 9)
	}
}

func spoilChanges(c []api.Change) {
	c = c[:cap(c)]
	for i := range c {
		c[i] = change(at(9, 9), beast(9), beast(99))
	}
}

// roomy returns the same elements with capacity behind them, and all of that.
func roomy[T any](l []T) (_, whole []T) {
	l = slices.Grow(slices.Clone(l), 200)
	return l, l[:cap(l)]
}

func TestP2ArgumentsStayAsTheyAre(t *testing.T) {
	a, b, c := sample()
	slices.Reverse(c) // Apply must not sort them
	la, wholeA := roomy(a)
	lb, wholeB := roomy(b)
	lc, wholeC := roomy(c)
	spoilRows(wholeA[len(a):])
	spoilRows(wholeB[len(b):])
	spoilChanges(wholeC[len(c):])
	beforeA, beforeB, beforeC := slices.Clone(wholeA), slices.Clone(wholeB), slices.Clone(wholeC)
	diff.Between(la, lb)
	diff.Apply(la, lc)
	diff.Apply(lb, lc)
	diff.Invert(lc)
	diff.Between(wholeA, lb)
	diff.Apply(la, wholeC)
	if !slices.Equal(wholeA, beforeA) || !slices.Equal(wholeB, beforeB) || !slices.Equal(wholeC, beforeC) {
		t.Error("a function has changed its argument or the capacity behind it")
	}
}

func TestP2ArgumentsAreNotKept(t *testing.T) {
	a, b, c := sample()
	inverse := slices.Clone(diff.Invert(c))
	changes, _ := diff.Between(a, b)
	rows, _ := diff.Apply(a, c)
	same, _ := diff.Apply(a, nil)
	back := diff.Invert(c)
	spoilRows(a)
	spoilRows(b)
	spoilChanges(c)
	a, b, c = sample()
	if !slices.Equal(changes, c) || !slices.Equal(rows, b) || !slices.Equal(same, a) || !slices.Equal(back, inverse) {
		t.Error("a result has changed with an argument")
	}
}

func TestP2ResultsAreNew(t *testing.T) {
	a, b, c := sample()
	for range 2 {
		changes, _ := diff.Between(a, b)
		nothing, _ := diff.Between(a, a)
		rows, _ := diff.Apply(a, c)
		same, _ := diff.Apply(a, nil)
		back := diff.Invert(c)
		one := diff.Invert(c[:1])
		for _, l := range [][]api.Change{changes, nothing, back, one} {
			spoilChanges(l)
		}
		for _, l := range [][]api.Row{rows, same} {
			spoilRows(l)
		}
		checkBetween(t, a, b, c...)
		checkApply(t, a, c, b...)
	}
	wantA, wantB, wantC := sample()
	if !slices.Equal(a, wantA) || !slices.Equal(b, wantB) || !slices.Equal(c, wantC) {
		t.Error("a result shares memory with an argument")
	}
}

func TestP2NoStateBetweenCalls(t *testing.T) {
	a, b, c := sample()
	for range 3 {
		checkBetween(t, a, b, c...)
		checkApplyError(t, b, c, api.ErrNone)
		checkBetween(t, a, a)
		checkApply(t, a, c, b...)
		checkBetweenError(t, a, []api.Row{row(60, 0, 0)})
		checkApply(t, nil, nil)
	}
}
