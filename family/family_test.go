package family_test

import (
	"cmp"
	"math"
	"math/rand"
	"slices"
	"testing"

	"vivarium/api"
	"vivarium/family"
)

func at(slot, gen int) api.Handle { return api.Handle{Slot: slot, Gen: gen} }

// of returns the handles of generation 0 of slots.
func of(slots ...int) []api.Handle {
	var l []api.Handle
	for _, s := range slots {
		l = append(l, at(s, 0))
	}
	return l
}

// bond is one of handles of generation 0.
func bond(child, parent int) api.Bond {
	return api.Bond{Child: at(child, 0), Parent: at(parent, 0)}
}

func oddNumbers() []int {
	return []int{
		math.MinInt, math.MinInt + 1, -1 << 32, -1000001, -256, -2, -1, 0, 1, 2, 59, 60, 61,
		1000000, 1000001, 1 << 32, 1<<32 + 1, math.MaxInt - 1, math.MaxInt,
	}
}

func checkAdopt(t *testing.T, f *family.Family, child, parent api.Handle, want api.Errno) {
	t.Helper()
	if e := f.Adopt(child, parent); e != want {
		t.Errorf("Adopt(%v, %v) = %d; want %d", child, parent, e, want)
	}
}

func checkLoosen(t *testing.T, f *family.Family, child api.Handle, want api.Errno) {
	t.Helper()
	if e := f.Loosen(child); e != want {
		t.Errorf("Loosen(%v) = %d; want %d", child, e, want)
	}
}

func checkParent(t *testing.T, f *family.Family, child, want api.Handle, wantIs bool) {
	t.Helper()
	if p, is := f.Parent(child); p != want || is != wantIs {
		t.Errorf("Parent(%v) = %v, %v; want %v, %v", child, p, is, want, wantIs)
	}
}

func checkChildren(t *testing.T, f *family.Family, parent api.Handle, want ...api.Handle) {
	t.Helper()
	if l := f.Children(parent); !slices.Equal(l, want) {
		t.Errorf("Children(%v) = %v; want %v", parent, l, want)
	}
}

func checkUnder(t *testing.T, f *family.Family, h api.Handle, want ...api.Handle) {
	t.Helper()
	if l := f.Under(h); !slices.Equal(l, want) {
		t.Errorf("Under(%v) = %v; want %v", h, l, want)
	}
}

// checkFamily compares all that can be seen of a family without changing it
// with what a plain list of its bonds, in the order of the children, tells.
func checkFamily(t *testing.T, f *family.Family, bonds ...api.Bond) {
	t.Helper()
	if l := f.Bonds(); !slices.Equal(l, bonds) {
		t.Errorf("Bonds() = %v; want %v", l, bonds)
	}
	m := &model{bonds: bonds}
	handles := []api.Handle{{}, at(-7, 3), at(999, 0)}
	for _, b := range bonds {
		handles = append(handles, b.Child, b.Parent, at(b.Child.Slot, b.Child.Gen+1))
	}
	for _, h := range handles {
		p, is := m.parent(h)
		checkParent(t, f, h, p, is)
		checkChildren(t, f, h, m.children(h)...)
		checkUnder(t, f, h, m.under(h)...)
	}
}

func having(t *testing.T, bonds ...api.Bond) *family.Family {
	t.Helper()
	f := family.New()
	for _, b := range bonds {
		checkAdopt(t, f, b.Child, b.Parent, api.OK)
	}
	return f
}

// sample has the roots 1 and 8:
//
//	1: 2 (3, 4 (6)), 5
//	8: 7, 9
func sample(t *testing.T) (*family.Family, []api.Bond) {
	t.Helper()
	bonds := []api.Bond{bond(2, 1), bond(3, 2), bond(4, 2), bond(5, 1), bond(6, 4), bond(7, 8), bond(9, 8)}
	return having(t, bonds...), bonds
}

// without returns the bonds that are left if those of some children are not there.
func without(bonds []api.Bond, children ...int) []api.Bond {
	return slices.DeleteFunc(slices.Clone(bonds), func(b api.Bond) bool {
		return slices.Contains(children, b.Child.Slot)
	})
}

func TestP10New(t *testing.T) {
	for _, f := range []*family.Family{family.New(), {}} {
		checkFamily(t, f)
		checkLoosen(t, f, at(0, 0), api.ErrNone)
		f.Gone(at(0, 0))
		checkFamily(t, f)
		checkAdopt(t, f, at(0, 0), at(0, 0), api.ErrLoop)
		checkFamily(t, f)
		checkAdopt(t, f, at(1, 0), at(0, 0), api.OK)
		checkFamily(t, f, bond(1, 0))
	}
}

func TestP10Sample(t *testing.T) {
	f, bonds := sample(t)
	checkFamily(t, f, bonds...)
	checkParent(t, f, at(6, 0), at(4, 0), true)
	checkParent(t, f, at(1, 0), api.Handle{}, false)
	checkChildren(t, f, at(1, 0), of(2, 5)...)
	checkChildren(t, f, at(2, 0), of(3, 4)...)
	checkChildren(t, f, at(3, 0))
	checkUnder(t, f, at(1, 0), of(2, 3, 4, 6, 5)...)
	checkUnder(t, f, at(2, 0), of(3, 4, 6)...)
	checkUnder(t, f, at(8, 0), of(7, 9)...)
	checkUnder(t, f, at(6, 0))
}

func TestP10AdoptReplacesAParent(t *testing.T) {
	f, bonds := sample(t)
	checkAdopt(t, f, at(4, 0), at(8, 0), api.OK)
	bonds[2] = bond(4, 8)
	checkFamily(t, f, bonds...)
	checkUnder(t, f, at(1, 0), of(2, 3, 5)...)
	checkUnder(t, f, at(8, 0), of(4, 6, 7, 9)...)
	// The same parent again changes nothing.
	checkAdopt(t, f, at(4, 0), at(8, 0), api.OK)
	checkFamily(t, f, bonds...)
	// An ancestor may become the parent.
	checkAdopt(t, f, at(6, 0), at(8, 0), api.OK)
	bonds[4] = bond(6, 8)
	checkFamily(t, f, bonds...)
	// A root may become a child.
	checkAdopt(t, f, at(8, 0), at(3, 0), api.OK)
	checkUnder(t, f, at(1, 0), of(2, 3, 8, 4, 6, 7, 9, 5)...)
}

func TestP10AdoptLoops(t *testing.T) {
	f, bonds := sample(t)
	for h := range 12 {
		checkAdopt(t, f, at(h, 0), at(h, 0), api.ErrLoop)
		for _, x := range f.Under(at(h, 0)) {
			checkAdopt(t, f, at(h, 0), x, api.ErrLoop)
		}
	}
	checkAdopt(t, f, at(1, 0), at(6, 0), api.ErrLoop)
	checkAdopt(t, f, at(2, 0), at(6, 0), api.ErrLoop) // it has another parent, which stays
	checkFamily(t, f, bonds...)
	// Without the bond in between, there is no loop.
	checkLoosen(t, f, at(4, 0), api.OK)
	checkAdopt(t, f, at(1, 0), at(6, 0), api.OK)
	checkUnder(t, f, at(4, 0), of(6, 1, 2, 3, 5)...)
}

func TestP10NoHandleIsItsOwnDescendant(t *testing.T) {
	r := rand.New(rand.NewSource(10))
	f := family.New()
	for range 500 {
		f.Adopt(at(r.Intn(20), r.Intn(2)), at(r.Intn(20), r.Intn(2)))
		for _, b := range f.Bonds() {
			if slices.Contains(f.Under(b.Parent), b.Parent) {
				t.Fatalf("%v is its own descendant", b.Parent)
			}
		}
	}
}

// Handles of one slot are different ones, and so are those of one generation.
func TestP10GenerationsDiffer(t *testing.T) {
	f := having(t, api.Bond{Child: at(1, 0), Parent: at(1, 1)}, api.Bond{Child: at(1, 1), Parent: at(1, 2)})
	checkFamily(t, f, api.Bond{Child: at(1, 0), Parent: at(1, 1)}, api.Bond{Child: at(1, 1), Parent: at(1, 2)})
	checkAdopt(t, f, at(1, 2), at(1, 0), api.ErrLoop)
	checkAdopt(t, f, at(1, 2), at(2, 0), api.OK)
	checkLoosen(t, f, at(1, 3), api.ErrNone)
	checkParent(t, f, at(2, 1), api.Handle{}, false)
	checkUnder(t, f, at(2, 0), at(1, 2), at(1, 1), at(1, 0))
	f.Gone(at(1, 4))
	checkUnder(t, f, at(2, 0), at(1, 2), at(1, 1), at(1, 0))
}

// The empty handle is a handle like the others.
func TestP10EmptyHandle(t *testing.T) {
	f := having(t, bond(3, 0))
	checkParent(t, f, at(3, 0), api.Handle{}, true)
	checkParent(t, f, at(4, 0), api.Handle{}, false)
	checkChildren(t, f, api.Handle{}, at(3, 0))
	checkAdopt(t, f, api.Handle{}, at(3, 0), api.ErrLoop)
	checkLoosen(t, f, api.Handle{}, api.ErrNone)
	checkAdopt(t, f, api.Handle{}, at(5, 0), api.OK)
	checkUnder(t, f, at(5, 0), of(0, 3)...)
}

func TestP10Loosen(t *testing.T) {
	for child := range 12 {
		f, bonds := sample(t)
		want := api.OK
		if _, is := f.Parent(at(child, 0)); !is {
			want = api.ErrNone
		}
		checkLoosen(t, f, at(child, 0), want)
		bonds = without(bonds, child)
		checkFamily(t, f, bonds...)
		checkLoosen(t, f, at(child, 0), api.ErrNone)
		checkFamily(t, f, bonds...)
	}
}

// A child that has lost its parent keeps its own children.
func TestP10LoosenKeepsTheChildren(t *testing.T) {
	f, bonds := sample(t)
	checkLoosen(t, f, at(2, 0), api.OK)
	checkFamily(t, f, bonds[1:]...)
	checkUnder(t, f, at(2, 0), of(3, 4, 6)...)
	checkUnder(t, f, at(1, 0), at(5, 0))
	checkLoosen(t, f, at(1, 0), api.ErrNone)
	checkAdopt(t, f, at(2, 0), at(8, 0), api.OK)
	checkUnder(t, f, at(8, 0), of(2, 3, 4, 6, 7, 9)...)
}

func TestP10Gone(t *testing.T) {
	lost := map[int][]int{1: {2, 5}, 2: {2, 3, 4}, 3: {3}, 4: {4, 6}, 5: {5}, 6: {6}, 7: {7}, 8: {7, 9}, 9: {9}}
	for h := range 12 {
		f, bonds := sample(t)
		bonds = without(bonds, lost[h]...)
		for range 2 {
			f.Gone(at(h, 0))
			checkFamily(t, f, bonds...)
		}
		checkLoosen(t, f, at(h, 0), api.ErrNone)
		checkUnder(t, f, at(h, 0))
	}
}

// A handle that was gone can have bonds again.
func TestP10AdoptAfterGone(t *testing.T) {
	f, _ := sample(t)
	f.Gone(at(2, 0))
	checkUnder(t, f, at(4, 0), at(6, 0))
	checkAdopt(t, f, at(1, 0), at(6, 0), api.OK)
	checkAdopt(t, f, at(2, 0), at(5, 0), api.OK)
	checkUnder(t, f, at(4, 0), of(6, 1, 5, 2)...)
}

// Handles are ordered by Slot, then by Gen, whatever order the bonds came in.
func TestP10Order(t *testing.T) {
	var handles []api.Handle
	for _, slot := range oddNumbers() {
		for _, gen := range oddNumbers() {
			handles = append(handles, at(slot, gen))
		}
	}
	top := at(5, 5)
	var want []api.Bond
	for _, h := range handles {
		want = append(want, api.Bond{Child: h, Parent: top})
	}
	for seed := range int64(5) {
		mixed := slices.Clone(want)
		rand.New(rand.NewSource(seed)).Shuffle(len(mixed), func(i, j int) { mixed[i], mixed[j] = mixed[j], mixed[i] })
		f := having(t, mixed...)
		for range 3 {
			checkChildren(t, f, top, handles...)
			checkUnder(t, f, top, handles...)
			if l := f.Bonds(); !slices.Equal(l, want) {
				t.Errorf("Bonds() = %v; want %v", l, want)
			}
		}
	}
}

// The order of the descendants is not that of the handles, but of the branches.
func TestP10UnderByBranches(t *testing.T) {
	f := having(t, bond(1, 50), bond(40, 50), bond(9, 40), bond(7, 40), bond(30, 1), bond(20, 1), bond(2, 30), bond(60, 20))
	checkUnder(t, f, at(50, 0), of(1, 20, 60, 30, 2, 40, 7, 9)...)
	checkUnder(t, f, at(1, 0), of(20, 60, 30, 2)...)
	checkUnder(t, f, at(40, 0), of(7, 9)...)
}

// model is a plain list of bonds in the order of the children.
type model struct{ bonds []api.Bond }

func before(a, b api.Handle) int {
	if a.Slot != b.Slot {
		return cmp.Compare(a.Slot, b.Slot)
	}
	return cmp.Compare(a.Gen, b.Gen)
}

func (m *model) parent(h api.Handle) (api.Handle, bool) {
	for _, b := range m.bonds {
		if b.Child == h {
			return b.Parent, true
		}
	}
	return api.Handle{}, false
}

func (m *model) children(h api.Handle) []api.Handle {
	var l []api.Handle
	for _, b := range m.bonds {
		if b.Parent == h {
			l = append(l, b.Child)
		}
	}
	return l
}

func (m *model) under(h api.Handle) []api.Handle {
	var l []api.Handle
	for _, c := range m.children(h) {
		l = append(append(l, c), m.under(c)...)
	}
	return l
}

func (m *model) adopt(child, parent api.Handle) api.Errno {
	if child == parent || slices.Contains(m.under(child), parent) {
		return api.ErrLoop
	}
	m.loosen(child)
	m.bonds = append(m.bonds, api.Bond{Child: child, Parent: parent})
	slices.SortFunc(m.bonds, func(a, b api.Bond) int { return before(a.Child, b.Child) })
	return api.OK
}

func (m *model) loosen(child api.Handle) api.Errno {
	if _, is := m.parent(child); !is {
		return api.ErrNone
	}
	m.bonds = slices.DeleteFunc(m.bonds, func(b api.Bond) bool { return b.Child == child })
	return api.OK
}

func (m *model) gone(h api.Handle) {
	m.bonds = slices.DeleteFunc(m.bonds, func(b api.Bond) bool { return b.Child == h || b.Parent == h })
}

func TestP10LikeAModel(t *testing.T) {
	for seed := range int64(40) {
		r := rand.New(rand.NewSource(seed))
		f, m := family.New(), &model{}
		slots, gens := 2+r.Intn(20), 1+r.Intn(3)
		handle := func() api.Handle { return at(r.Intn(slots)-1, r.Intn(gens)-1) }
		for range 200 {
			h, p := handle(), handle()
			switch r.Intn(8) {
			case 0:
				checkLoosen(t, f, h, m.loosen(h))
			case 1:
				f.Gone(h)
				m.gone(h)
			default:
				checkAdopt(t, f, h, p, m.adopt(h, p))
			}
			checkFamily(t, f, m.bonds...)
		}
	}
}

// A panic in any of these calls fails the test.
func TestP1NoPanic(t *testing.T) {
	full, _ := sample(t)
	for _, f := range []*family.Family{{}, family.New(), full} {
		for _, a := range oddNumbers() {
			for _, b := range oddNumbers() {
				for _, h := range []api.Handle{at(a, b), at(0, b), at(a, 0)} {
					f.Loosen(h)
					f.Adopt(h, at(b, a))
					f.Adopt(at(b, a), h)
					f.Adopt(h, h)
					f.Parent(h)
					f.Children(h)
					f.Under(h)
					f.Gone(at(a, a))
				}
			}
			f.Bonds()
		}
	}
	zero := &family.Family{}
	zero.Gone(at(0, 0))
	zero.Loosen(at(0, 0))
	zero.Parent(at(0, 0))
	zero.Children(at(0, 0))
	zero.Under(at(0, 0))
	zero.Bonds()
}

// The calls end, and soon, in a family that is deep or wide.
func TestP1LargeFamilies(t *testing.T) {
	const size = 200000
	deep, wide := family.New(), family.New()
	for i := range size {
		deep.Adopt(at(i, 0), at(i+1, 0))
		wide.Adopt(at(i, 0), at(size, 0))
	}
	checkAdopt(t, deep, at(size, 0), at(0, 0), api.ErrLoop)
	checkAdopt(t, wide, at(size, 0), at(0, 0), api.ErrLoop)
	down := deep.Under(at(size, 0))
	slices.Reverse(down)
	for _, l := range [][]api.Handle{down, wide.Under(at(size, 0)), wide.Children(at(size, 0))} {
		if len(l) != size || l[0] != at(0, 0) || l[size-1] != at(size-1, 0) || !slices.IsSortedFunc(l, before) {
			t.Errorf("not all of the %d descendants in order, but %d", size, len(l))
		}
	}
	wide.Gone(at(size, 0))
	checkFamily(t, wide)
}

func TestP2ResultsAreNew(t *testing.T) {
	f, bonds := sample(t)
	for range 2 {
		children, under, all := f.Children(at(1, 0)), f.Under(at(1, 0)), f.Bonds()
		otherChildren, otherUnder, otherAll := f.Children(at(1, 0)), f.Under(at(1, 0)), f.Bonds()
		for _, l := range [][]api.Handle{children[:cap(children)], under[:cap(under)]} {
			for i := range l {
				l[i] = at(-9, -9)
			}
		}
		all = all[:cap(all)]
		for i := range all {
			all[i] = bond(-9, -9)
		}
		if !slices.Equal(otherChildren, of(2, 5)) || !slices.Equal(otherUnder, of(2, 3, 4, 6, 5)) || !slices.Equal(otherAll, bonds) {
			t.Errorf("two results share memory: %v, %v, %v", otherChildren, otherUnder, otherAll)
		}
		checkFamily(t, f, bonds...)
	}
}

func TestP2ResultsStayAsTheyAre(t *testing.T) {
	f, bonds := sample(t)
	children, under, all := f.Children(at(1, 0)), f.Under(at(1, 0)), f.Bonds()
	checkAdopt(t, f, at(3, 0), at(1, 0), api.OK)
	checkLoosen(t, f, at(5, 0), api.OK)
	f.Gone(at(4, 0))
	f.Under(at(1, 0))
	if !slices.Equal(children, of(2, 5)) || !slices.Equal(under, of(2, 3, 4, 6, 5)) || !slices.Equal(all, bonds) {
		t.Errorf("later calls have changed earlier results: %v, %v, %v", children, under, all)
	}
}

func TestP2FamiliesAreSeparate(t *testing.T) {
	x, bonds := sample(t)
	y, _ := sample(t)
	checkAdopt(t, x, at(8, 0), at(1, 0), api.OK)
	checkLoosen(t, x, at(3, 0), api.OK)
	x.Gone(at(2, 0))
	checkFamily(t, y, bonds...)
	checkFamily(t, family.New())
}
