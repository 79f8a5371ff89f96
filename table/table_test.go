package table_test

import (
	"math"
	"math/rand"
	"slices"
	"testing"

	"vivarium/api"
	"vivarium/table"
)

const most = 1000000000

func at(slot, gen int) api.Handle { return api.Handle{Slot: slot, Gen: gen} }

// beast has the components of kinds, with the values base, base + 1 and so on.
func beast(kinds, base int) api.Beast {
	b := api.Beast{Kinds: kinds}
	for k := range 8 {
		if kinds>>k&1 == 1 {
			b.Values[k] = base + k
		}
	}
	return b
}

func row(slot, kinds int) api.Row {
	return api.Row{Handle: at(slot, slot+1), Beast: beast(kinds, 100*slot)}
}

// oddNumbers are the numbers at which a mistake with signs, shifts or bounds shows.
func oddNumbers() []int {
	return []int{
		math.MinInt, math.MinInt + 1, -most - 1, -most, -256, -255, -8, -2, -1, 0, 1, 2, 3, 7, 8, 9, 63, 64,
		128, 254, 255, 256, 257, most, most + 1, 1 << 32, 1<<32 + 1, math.MaxInt - 1, math.MaxInt,
	}
}

func newTable(t *testing.T, kinds int) *table.Table {
	t.Helper()
	x, e := table.New(kinds)
	if x == nil || e != api.OK {
		t.Fatalf("New(%d) = %v, %d", kinds, x, e)
	}
	return x
}

// tableOf returns a table of the set kinds with the given rows.
func tableOf(t *testing.T, kinds int, rows ...api.Row) *table.Table {
	t.Helper()
	x := newTable(t, kinds)
	for i, r := range rows {
		checkAdd(t, x, r.Handle, r.Beast, i, api.OK)
	}
	return x
}

func checkAdd(t *testing.T, x *table.Table, h api.Handle, b api.Beast, want int, wantErr api.Errno) {
	t.Helper()
	if n, e := x.Add(h, b); n != want || e != wantErr {
		t.Errorf("Add(%v, %v) = %d, %d; want %d, %d", h, b, n, e, want, wantErr)
	}
}

func checkRemove(t *testing.T, x *table.Table, n int, want api.Row, wantErr api.Errno) {
	t.Helper()
	if r, e := x.Remove(n); r != want || e != wantErr {
		t.Errorf("Remove(%d) = %v, %d; want %v, %d", n, r, e, want, wantErr)
	}
}

func checkRow(t *testing.T, x *table.Table, n int, want api.Row, wantErr api.Errno) {
	t.Helper()
	if r, e := x.Row(n); r != want || e != wantErr {
		t.Errorf("Row(%d) = %v, %d; want %v, %d", n, r, e, want, wantErr)
	}
}

func checkSet(t *testing.T, x *table.Table, n, kind, value int, want api.Errno) {
	t.Helper()
	if e := x.Set(n, kind, value); e != want {
		t.Errorf("Set(%d, %d, %d) = %d; want %d", n, kind, value, e, want)
	}
}

func checkColumn(t *testing.T, x *table.Table, kind int, want []int, wantErr api.Errno) {
	t.Helper()
	l, e := x.Column(kind)
	if !slices.Equal(l, want) || e != wantErr {
		t.Errorf("Column(%d) = %v, %d; want %v, %d", kind, l, e, want, wantErr)
	}
}

// checkTable compares all that can be seen of a table of the set kinds.
func checkTable(t *testing.T, x *table.Table, kinds int, rows ...api.Row) {
	t.Helper()
	var handles []api.Handle
	var columns [8][]int
	for i, r := range rows {
		checkRow(t, x, i, r, api.OK)
		handles = append(handles, r.Handle)
		for k, n := range r.Values {
			columns[k] = append(columns[k], n)
		}
	}
	checkRow(t, x, -1, api.Row{}, api.ErrNone)
	checkRow(t, x, len(rows), api.Row{}, api.ErrNone)
	if l := x.Handles(); !slices.Equal(l, handles) {
		t.Errorf("Handles() = %v; want %v", l, handles)
	}
	for k := range 8 {
		if kinds>>k&1 == 1 {
			checkColumn(t, x, k, columns[k], api.OK)
		} else {
			checkColumn(t, x, k, nil, api.ErrNone)
		}
	}
}

func TestP7New(t *testing.T) {
	for kinds := range 256 {
		x := newTable(t, kinds)
		checkTable(t, x, kinds)
		checkAdd(t, x, at(0, 0), api.Beast{Kinds: kinds}, 0, api.OK)
	}
	checkTable(t, &table.Table{}, 0)
	checkAdd(t, &table.Table{}, at(0, 0), api.Beast{}, 0, api.OK)
}

func TestP7NewErrors(t *testing.T) {
	for _, n := range oddNumbers() {
		if n >= 0 && n <= 255 {
			continue
		}
		if x, e := table.New(n); x != nil || e != api.ErrArg {
			t.Errorf("New(%d) = %v, %d; want nil, ErrArg", n, x, e)
		}
	}
}

func TestP7Add(t *testing.T) {
	for _, kinds := range []int{0, 1, 5, 128, 129, 170, 255} {
		x := newTable(t, kinds)
		var rows []api.Row
		for i := range 70 {
			r := row(i, kinds)
			checkAdd(t, x, r.Handle, r.Beast, i, api.OK)
			rows = append(rows, r)
			checkTable(t, x, kinds, rows...)
		}
	}
}

func TestP7AddTakesTheExtremes(t *testing.T) {
	b := api.Beast{Kinds: 255, Values: [8]int{most, -most, 0, 1, -1, most - 1, 1 - most, 7}}
	checkTable(t, tableOf(t, 255, api.Row{Beast: b}), 255, api.Row{Beast: b})
}

func TestP7AddDoesNotExamineTheHandle(t *testing.T) {
	x := newTable(t, 2)
	var rows []api.Row
	for _, n := range oddNumbers() {
		for _, h := range []api.Handle{at(n, n), at(3, n), at(n, 3), at(3, 3)} {
			r := api.Row{Handle: h, Beast: beast(2, 5)}
			checkAdd(t, x, h, r.Beast, len(rows), api.OK)
			rows = append(rows, r)
		}
	}
	checkTable(t, x, 2, rows...)
}

func TestP7AddErrors(t *testing.T) {
	rows := []api.Row{row(1, 5), row(2, 5)}
	x := tableOf(t, 5, rows...)
	for _, n := range oddNumbers() {
		if n < 0 || n > 255 {
			checkAdd(t, x, at(1, 1), api.Beast{Kinds: n}, 0, api.ErrArg)
		} else if n != 5 {
			checkAdd(t, x, at(1, 1), api.Beast{Kinds: n}, 0, api.ErrForm)
		}
		if n < -most || n > most {
			checkAdd(t, x, at(1, 1), api.Beast{Kinds: 5, Values: [8]int{n}}, 0, api.ErrArg)
			checkAdd(t, x, at(1, 1), api.Beast{Kinds: 5, Values: [8]int{2: n}}, 0, api.ErrArg)
		}
		if n != 0 {
			checkAdd(t, x, at(1, 1), api.Beast{Kinds: 5, Values: [8]int{1: n}}, 0, api.ErrForm)
			checkAdd(t, x, at(1, 1), api.Beast{Kinds: 5, Values: [8]int{7: n}}, 0, api.ErrForm)
		}
	}
	checkTable(t, x, 5, rows...)
}

func TestP7AddErrorOrder(t *testing.T) {
	x := newTable(t, 5)
	// The entity's own error precedes that of its set.
	checkAdd(t, x, at(0, 0), api.Beast{Kinds: 1, Values: [8]int{most + 1}}, 0, api.ErrArg)
	checkAdd(t, x, at(0, 0), api.Beast{Kinds: 7, Values: [8]int{1: -most - 1}}, 0, api.ErrArg)
	checkAdd(t, x, at(0, 0), api.Beast{Kinds: 256, Values: [8]int{1: 1}}, 0, api.ErrArg)
	checkAdd(t, x, at(0, 0), api.Beast{Kinds: 5, Values: [8]int{0: most + 1, 1: 1}}, 0, api.ErrArg)
	checkAdd(t, x, at(0, 0), api.Beast{Kinds: 5, Values: [8]int{1: 1, 2: most + 1}}, 0, api.ErrForm)
	checkTable(t, x, 5)
}

func TestP7Remove(t *testing.T) {
	a, b, c, d := row(1, 6), row(2, 6), row(3, 6), row(4, 6)
	for _, v := range []struct {
		n    int
		gone api.Row
		left []api.Row
	}{
		{0, a, []api.Row{d, b, c}},
		{1, b, []api.Row{a, d, c}},
		{2, c, []api.Row{a, b, d}},
		{3, d, []api.Row{a, b, c}},
	} {
		x := tableOf(t, 6, a, b, c, d)
		checkRemove(t, x, v.n, v.gone, api.OK)
		checkTable(t, x, 6, v.left...)
		checkAdd(t, x, v.gone.Handle, v.gone.Beast, 3, api.OK)
		checkTable(t, x, 6, append(v.left, v.gone)...)
	}
}

func TestP7RemoveUntilEmpty(t *testing.T) {
	for _, kinds := range []int{0, 255} {
		a, b, c := row(1, kinds), row(2, kinds), row(3, kinds)
		x := tableOf(t, kinds, a, b, c)
		checkRemove(t, x, 0, a, api.OK)
		checkTable(t, x, kinds, c, b)
		checkRemove(t, x, 0, c, api.OK)
		checkTable(t, x, kinds, b)
		checkRemove(t, x, 0, b, api.OK)
		checkTable(t, x, kinds)
		checkRemove(t, x, 0, api.Row{}, api.ErrNone)
		checkAdd(t, x, a.Handle, a.Beast, 0, api.OK)
		checkTable(t, x, kinds, a)
	}
}

func TestP7RemoveAndRowErrors(t *testing.T) {
	rows := []api.Row{row(1, 9), row(2, 9), row(3, 9)}
	x := tableOf(t, 9, rows...)
	empty := newTable(t, 9)
	for _, n := range oddNumbers() {
		checkRow(t, empty, n, api.Row{}, api.ErrNone)
		checkRemove(t, empty, n, api.Row{}, api.ErrNone)
		if n < 0 || n > 2 {
			checkRow(t, x, n, api.Row{}, api.ErrNone)
			checkRemove(t, x, n, api.Row{}, api.ErrNone)
		}
	}
	checkTable(t, x, 9, rows...)
	checkTable(t, empty, 9)
}

func TestP7Set(t *testing.T) {
	rows := []api.Row{row(1, 133), row(2, 133), row(3, 133)}
	x := tableOf(t, 133, rows...)
	for _, n := range []int{most, -most, 0, 1, -1} {
		for i := range rows {
			for _, k := range []int{0, 2, 7} {
				checkSet(t, x, i, k, n, api.OK)
				rows[i].Values[k] = n
				checkTable(t, x, 133, rows...)
			}
		}
	}
}

func TestP7SetFollowsAMovedRow(t *testing.T) {
	a, b, c := row(1, 3), row(2, 3), row(3, 3)
	x := tableOf(t, 3, a, b, c)
	checkRemove(t, x, 0, a, api.OK)
	checkSet(t, x, 0, 1, 77, api.OK)
	c.Values[1] = 77
	checkTable(t, x, 3, c, b)
	checkSet(t, x, 2, 1, 77, api.ErrNone)
	checkRemove(t, x, 0, c, api.OK)
}

func TestP7SetErrors(t *testing.T) {
	rows := []api.Row{row(1, 5), row(2, 5), row(3, 5)}
	x := tableOf(t, 5, rows...)
	for _, n := range oddNumbers() {
		if n < 0 || n > 2 {
			checkSet(t, x, n, 0, 1, api.ErrNone)
		}
		if n < 0 || n > 7 {
			checkSet(t, x, 0, n, 1, api.ErrArg)
		}
		if n < -most || n > most {
			checkSet(t, x, 2, 2, n, api.ErrArg)
		}
	}
	for _, k := range []int{1, 3, 4, 5, 6, 7} {
		checkSet(t, x, 0, k, 0, api.ErrNone)
	}
	checkTable(t, x, 5, rows...)
}

func TestP7SetErrorOrder(t *testing.T) {
	x := tableOf(t, 5, row(1, 5))
	// No such row precedes a number of no component and a value out of bounds.
	checkSet(t, x, 1, 8, 0, api.ErrNone)
	checkSet(t, x, -1, -1, most+1, api.ErrNone)
	checkSet(t, x, 1, 0, most+1, api.ErrNone)
	// A component that the table does not have precedes a value out of bounds.
	checkSet(t, x, 0, 1, most+1, api.ErrNone)
	checkSet(t, x, 0, 8, most+1, api.ErrArg)
	checkTable(t, x, 5, row(1, 5))
}

func TestP7Column(t *testing.T) {
	x := newTable(t, 129)
	checkColumn(t, x, 0, nil, api.OK)
	checkColumn(t, x, 7, nil, api.OK)
	for i := range 3 {
		checkAdd(t, x, at(i, 0), api.Beast{Kinds: 129, Values: [8]int{0: i, 7: -i}}, i, api.OK)
	}
	checkColumn(t, x, 0, []int{0, 1, 2}, api.OK)
	checkColumn(t, x, 7, []int{0, -1, -2}, api.OK)
	for k := 1; k < 7; k++ {
		checkColumn(t, x, k, nil, api.ErrNone)
	}
	for _, n := range oddNumbers() {
		if n < 0 || n > 7 {
			checkColumn(t, x, n, nil, api.ErrArg)
			checkColumn(t, newTable(t, 255), n, nil, api.ErrArg)
		}
	}
}

func TestP7TheFirstOfThreeRowsIsRemoved(t *testing.T) {
	a, b, c := row(1, 1), row(2, 1), row(3, 1)
	x := tableOf(t, 1, a, b, c)
	checkRemove(t, x, 0, a, api.OK)
	checkRow(t, x, 0, c, api.OK)
	if l := x.Handles(); !slices.Equal(l, []api.Handle{c.Handle, b.Handle}) {
		t.Errorf("Handles() = %v", l)
	}
}

// The model is a plain list of rows.
func TestP7LikeAModel(t *testing.T) {
	for seed := range int64(60) {
		r := rand.New(rand.NewSource(seed))
		kinds := r.Intn(256)
		x := newTable(t, kinds)
		var rows []api.Row
		for range 200 {
			n := r.Intn(len(rows) + 1)
			switch r.Intn(4) {
			case 0, 1:
				y := api.Row{Handle: at(r.Intn(60), r.Intn(5)), Beast: beast(kinds, r.Intn(2*most)-most-7)}
				for k := range y.Values {
					y.Values[k] = max(y.Values[k], -most)
				}
				checkAdd(t, x, y.Handle, y.Beast, len(rows), api.OK)
				rows = append(rows, y)
			case 2:
				if n == len(rows) {
					checkRemove(t, x, n, api.Row{}, api.ErrNone)
					continue
				}
				checkRemove(t, x, n, rows[n], api.OK)
				rows[n] = rows[len(rows)-1]
				rows = rows[:len(rows)-1]
			case 3:
				k, value := r.Intn(8), r.Intn(100)
				if n == len(rows) || kinds>>k&1 == 0 {
					checkSet(t, x, n, k, value, api.ErrNone)
					continue
				}
				checkSet(t, x, n, k, value, api.OK)
				rows[n].Values[k] = value
			}
			checkTable(t, x, kinds, rows...)
		}
	}
}

// A panic in any of these calls fails the test.
func TestP1NoPanic(t *testing.T) {
	for _, a := range oddNumbers() {
		for _, b := range oddNumbers() {
			table.New(a)
			for _, x := range []*table.Table{{}, newTable(t, 0), tableOf(t, 255, row(1, 255)), tableOf(t, 2, row(1, 2))} {
				x.Set(a, b, 1)
				x.Set(a, 1, b)
				x.Set(0, a, b)
				x.Row(a)
				x.Column(a)
				x.Handles()
				x.Add(at(a, b), api.Beast{Kinds: a, Values: [8]int{b, a}})
				x.Add(at(a, b), api.Beast{Kinds: b})
				x.Remove(a)
				x.Remove(0)
			}
		}
	}
}

func TestP2ResultsAreNew(t *testing.T) {
	rows := []api.Row{row(1, 5), row(2, 5), row(3, 5)}
	x := tableOf(t, 5, rows...)
	checkRemove(t, x, 2, rows[2], api.OK)
	rows = rows[:2]
	for range 2 {
		handles, otherHandles := x.Handles(), x.Handles()
		values, _ := x.Column(0)
		otherValues, _ := x.Column(0)
		handles, values = handles[:cap(handles)], values[:cap(values)]
		for i := range handles {
			handles[i] = at(-9, -9)
		}
		for i := range values {
			values[i] = -9
		}
		if !slices.Equal(otherHandles, []api.Handle{rows[0].Handle, rows[1].Handle}) {
			t.Errorf("two results of Handles share memory: %v", otherHandles)
		}
		if !slices.Equal(otherValues, []int{rows[0].Values[0], rows[1].Values[0]}) {
			t.Errorf("two results of Column share memory: %v", otherValues)
		}
		checkTable(t, x, 5, rows...)
	}
}

func TestP2ResultsStayAsTheyAre(t *testing.T) {
	x := tableOf(t, 5, row(1, 5), row(2, 5))
	handles := x.Handles()
	values, _ := x.Column(2)
	checkSet(t, x, 0, 2, 1, api.OK)
	checkRemove(t, x, 1, row(2, 5), api.OK)
	checkAdd(t, x, at(9, 9), beast(5, 900), 1, api.OK)
	if !slices.Equal(handles, []api.Handle{at(1, 2), at(2, 3)}) || !slices.Equal(values, []int{102, 202}) {
		t.Errorf("later calls have changed earlier results: %v, %v", handles, values)
	}
}

func TestP2TablesAreSeparate(t *testing.T) {
	x, y := newTable(t, 5), newTable(t, 5)
	checkAdd(t, x, at(1, 2), beast(5, 100), 0, api.OK)
	checkTable(t, y, 5)
	checkAdd(t, y, at(2, 3), beast(5, 200), 0, api.OK)
	checkSet(t, y, 0, 0, 1, api.OK)
	checkTable(t, x, 5, row(1, 5))
}
