package mask_test

import (
	"math"
	"slices"
	"testing"

	"vivarium/api"
	"vivarium/mask"
)

// oddNumbers are the numbers at which a mistake with signs, shifts or bounds shows.
func oddNumbers() []int {
	return []int{
		math.MinInt, math.MinInt + 1, -api.MaxValue - 1, -257, -256, -255, -2, -1, 0, 1, 7, 8, 63, 64, 65,
		128, 254, 255, 256, 257, 511, 1 << 32, 1 << 62, api.MaxValue + 1, math.MaxInt - 1, math.MaxInt,
	}
}

func checkOf(t *testing.T, l []int, want int, wantErr api.Errno) {
	t.Helper()
	if m, e := mask.Of(l); m != want || e != wantErr {
		t.Errorf("Of(%v) = %d, %d; want %d, %d", l, m, e, want, wantErr)
	}
}

func TestP3Of(t *testing.T) {
	checkOf(t, nil, 0, api.OK)
	checkOf(t, []int{}, 0, api.OK)
	checkOf(t, []int{0, 7}, 129, api.OK)
	checkOf(t, []int{5, 0, 2}, 37, api.OK)
	checkOf(t, []int{7, 6, 5, 4, 3, 2, 1, 0}, 255, api.OK)
	for k := range api.MaxKinds {
		checkOf(t, []int{k}, 1<<k, api.OK)
	}
}

func TestP3OfErrors(t *testing.T) {
	for _, k := range oddNumbers() {
		if k < 0 || k > 7 {
			checkOf(t, []int{k}, 0, api.ErrArg)
			checkOf(t, []int{0, 1, k}, 0, api.ErrArg)
		}
	}
	for k := range api.MaxKinds {
		checkOf(t, []int{k, k}, 0, api.ErrTwice)
		checkOf(t, []int{k, (k + 1) % api.MaxKinds, k}, 0, api.ErrTwice)
	}
	checkOf(t, []int{0, 1, 2, 3, 4, 5, 6, 7, 3}, 0, api.ErrTwice)
	checkOf(t, slices.Repeat([]int{4}, 100000), 0, api.ErrTwice)
}

func TestP3OfErrorOrder(t *testing.T) {
	checkOf(t, []int{1, 1, 8}, 0, api.ErrArg)
	checkOf(t, []int{1, 1, -1}, 0, api.ErrArg)
	checkOf(t, []int{8, 1, 1}, 0, api.ErrArg)
	checkOf(t, []int{8, 8}, 0, api.ErrArg)
	checkOf(t, []int{0, 1, 2, 3, 4, 5, 6, 7, 0, 8}, 0, api.ErrArg)
}

func TestP3ListAndCount(t *testing.T) {
	for _, c := range []struct {
		m    int
		want []int
	}{
		{0, nil},
		{1, []int{0}},
		{128, []int{7}},
		{129, []int{0, 7}},
		{37, []int{0, 2, 5}},
		{255, []int{0, 1, 2, 3, 4, 5, 6, 7}},
		{256, nil},
		{256 + 6, []int{1, 2}},
		{1 << 62, nil},
		{math.MaxInt, []int{0, 1, 2, 3, 4, 5, 6, 7}},
		{-1, []int{0, 1, 2, 3, 4, 5, 6, 7}},
		{-2, []int{1, 2, 3, 4, 5, 6, 7}},
		{-255, []int{0}},
		{-256, nil},
		{-128, []int{7}},
		{math.MinInt, nil},
		{math.MinInt + 5, []int{0, 2}},
	} {
		if l := mask.List(c.m); !slices.Equal(l, c.want) {
			t.Errorf("List(%d) = %v; want %v", c.m, l, c.want)
		}
		if n := mask.Count(c.m); n != len(c.want) {
			t.Errorf("Count(%d) = %d; want %d", c.m, n, len(c.want))
		}
	}
}

func TestP3OfInvertsList(t *testing.T) {
	for m := -512; m < 512; m++ {
		l := mask.List(m)
		back, e := mask.Of(l)
		if back != m&255 || e != api.OK || !slices.IsSorted(l) || len(l) != mask.Count(m) {
			t.Errorf("List(%d) = %v, of which Of is %d, %d and Count(%d) is %d", m, l, back, e, m, mask.Count(m))
		}
	}
}

func TestP3Matches(t *testing.T) {
	for _, c := range []struct {
		m    int
		q    api.Query
		want bool
	}{
		{0, api.Query{}, true},
		{255, api.Query{}, true},
		{3, api.Query{Need: 1}, true},
		{3, api.Query{Need: 3}, true},
		{3, api.Query{Need: 5}, false},
		{3, api.Query{Need: 4}, false},
		{3, api.Query{Not: 4}, true},
		{3, api.Query{Not: 2}, false},
		{3, api.Query{Not: 6}, false},
		{3, api.Query{Any: 6}, true},
		{3, api.Query{Any: 4}, false},
		{0, api.Query{Any: 255}, false},
		{3, api.Query{Need: 1, Not: 4, Any: 2}, true},
		{3, api.Query{Need: 1, Not: 4, Any: 8}, false},
		{3, api.Query{Need: 1, Not: 2, Any: 2}, false},
		{3, api.Query{Need: 8, Not: 4, Any: 2}, false},
		{3, api.Query{Need: 1, Not: 1}, false},
	} {
		checkMatches(t, c.m, c.q, c.want)
	}
}

func TestP3MatchesHighAndNegativeBits(t *testing.T) {
	for _, c := range []struct {
		m    int
		q    api.Query
		want bool
	}{
		{256, api.Query{Need: 256}, true},
		{255, api.Query{Need: 256}, false},
		{256, api.Query{Not: 256}, false},
		{255, api.Query{Not: 256}, true},
		{256, api.Query{Any: 256}, true},
		{255, api.Query{Any: 256}, false},
		{-1, api.Query{Need: -1}, true},
		{-1, api.Query{Need: math.MaxInt}, true},
		{math.MaxInt, api.Query{Need: -1}, false},
		{math.MaxInt, api.Query{Not: math.MinInt}, true},
		{-1, api.Query{Not: math.MinInt}, false},
		{-1, api.Query{Any: math.MinInt}, true},
		{math.MaxInt, api.Query{Any: math.MinInt}, false},
		{math.MinInt, api.Query{Need: math.MinInt, Not: math.MaxInt, Any: -1}, true},
		{0, api.Query{Any: -1}, false},
	} {
		checkMatches(t, c.m, c.q, c.want)
	}
}

func checkMatches(t *testing.T, m int, q api.Query, want bool) {
	t.Helper()
	if mask.Matches(m, q) != want {
		t.Errorf("Matches(%d, %v) is not %t", m, q, want)
	}
}

// matchesByBits follows the words of the chapter, one bit at a time.
func matchesByBits(m int, q api.Query) bool {
	some := q.Any == 0
	for bit := range 64 {
		in := uint64(m)>>bit&1 == 1
		if uint64(q.Need)>>bit&1 == 1 && !in {
			return false
		}
		if uint64(q.Not)>>bit&1 == 1 && in {
			return false
		}
		if uint64(q.Any)>>bit&1 == 1 && in {
			some = true
		}
	}
	return some
}

func TestP3MatchesEveryMix(t *testing.T) {
	for _, m := range oddNumbers() {
		for _, need := range oddNumbers() {
			for _, not := range oddNumbers() {
				for _, some := range oddNumbers() {
					q := api.Query{Need: need, Not: not, Any: some}
					checkMatches(t, m, q, matchesByBits(m, q))
				}
			}
		}
	}
}

func checkBeast(t *testing.T, b api.Beast, want api.Errno) {
	t.Helper()
	if e := mask.CheckBeast(b); e != want {
		t.Errorf("CheckBeast(%v) = %d; want %d", b, e, want)
	}
}

func TestP4CheckBeastKinds(t *testing.T) {
	for _, m := range oddNumbers() {
		want := api.OK
		if m < 0 || m > 255 {
			want = api.ErrArg
		}
		checkBeast(t, api.Beast{Kinds: m}, want)
	}
}

func TestP4CheckBeastValues(t *testing.T) {
	for k := range api.MaxKinds {
		for _, c := range []struct {
			n       int
			present api.Errno
			absent  api.Errno
		}{
			{0, api.OK, api.OK},
			{1, api.OK, api.ErrForm},
			{-1, api.OK, api.ErrForm},
			{1000000000, api.OK, api.ErrForm},
			{-1000000000, api.OK, api.ErrForm},
			{1000000001, api.ErrArg, api.ErrForm},
			{-1000000001, api.ErrArg, api.ErrForm},
			{math.MaxInt, api.ErrArg, api.ErrForm},
			{math.MinInt, api.ErrArg, api.ErrForm},
		} {
			var b api.Beast
			b.Values[k] = c.n
			b.Kinds = 1 << k
			checkBeast(t, b, c.present)
			b.Kinds = 255
			checkBeast(t, b, c.present)
			b.Kinds = 255 - 1<<k
			checkBeast(t, b, c.absent)
			b.Kinds = 0
			checkBeast(t, b, c.absent)
		}
	}
}

func TestP4CheckBeastErrorOrder(t *testing.T) {
	const large = 1000000001
	// Kinds come before all values.
	checkBeast(t, api.Beast{Kinds: 256, Values: [8]int{1}}, api.ErrArg)
	checkBeast(t, api.Beast{Kinds: -2, Values: [8]int{1}}, api.ErrArg)
	// The lower component decides, whatever its error is.
	checkBeast(t, api.Beast{Kinds: 1, Values: [8]int{large, 1}}, api.ErrArg)
	checkBeast(t, api.Beast{Kinds: 2, Values: [8]int{1, large}}, api.ErrForm)
	checkBeast(t, api.Beast{Kinds: 64, Values: [8]int{6: -large, 7: 1}}, api.ErrArg)
	checkBeast(t, api.Beast{Kinds: 128, Values: [8]int{6: 1, 7: -large}}, api.ErrForm)
	// Both errors at one component.
	checkBeast(t, api.Beast{Kinds: 0, Values: [8]int{3: large}}, api.ErrForm)
}

func TestP4CheckQuery(t *testing.T) {
	for _, need := range oddNumbers() {
		for _, not := range oddNumbers() {
			for _, some := range oddNumbers() {
				want := api.OK
				for _, m := range []int{need, not, some} {
					if m < 0 || m > 255 {
						want = api.ErrArg
					}
				}
				q := api.Query{Need: need, Not: not, Any: some}
				if e := mask.CheckQuery(q); e != want {
					t.Errorf("CheckQuery(%v) = %d; want %d", q, e, want)
				}
			}
		}
	}
}

// A panic in any of these calls fails the test.
func TestP1NoPanic(t *testing.T) {
	for _, a := range oddNumbers() {
		mask.List(a)
		mask.Count(a)
		for _, b := range oddNumbers() {
			mask.Of([]int{a, b})
			mask.Matches(a, api.Query{Need: b, Not: a, Any: b})
			mask.CheckQuery(api.Query{Need: a, Not: b, Any: a})
			mask.CheckBeast(api.Beast{Kinds: a, Values: [8]int{b, a, b, a, b, a, b, a}})
		}
	}
}

func TestP2OfLeavesItsArgument(t *testing.T) {
	for _, given := range [][]int{{5, 0, 2}, {1, 8, 1}, {3, 3, 0}} {
		whole := append(slices.Clone(given), 91, 92, 93)
		before := slices.Clone(whole)
		mask.Of(whole[:len(given)])
		if !slices.Equal(whole, before) {
			t.Errorf("Of(%v) has changed its argument or the capacity behind it: %v", given, whole)
		}
	}
}

func TestP2OfDoesNotRetainItsArgument(t *testing.T) {
	l := []int{5, 0, 2}
	mask.Of(l)
	l[0] = 1
	checkOf(t, l, 7, api.OK)
	checkOf(t, []int{5, 0, 2}, 37, api.OK)
}

func TestP2ListIsNewEachTime(t *testing.T) {
	for _, m := range []int{0, 1, 37, 255, 256, -1} {
		want := slices.Clone(mask.List(m))
		first, second := mask.List(m), mask.List(m)
		overwrite(first)
		if !slices.Equal(second, want) {
			t.Errorf("two results of List(%d) share memory", m)
		}
		if again := mask.List(m); !slices.Equal(again, want) {
			t.Errorf("List(%d) = %v after a result was overwritten; want %v", m, again, want)
		}
		for _, n := range second[:cap(second)] {
			if n == 99 {
				t.Errorf("two results of List(%d) share their capacity", m)
			}
		}
	}
}

// overwrite writes to all of the memory that a result reaches.
func overwrite(l []int) {
	l = l[:cap(l)]
	for i := range l {
		l[i] = 99
	}
}

func TestP2NoStateBetweenCalls(t *testing.T) {
	checkOf(t, []int{1, 1}, 0, api.ErrTwice)
	checkOf(t, []int{1}, 2, api.OK)
	checkOf(t, []int{8}, 0, api.ErrArg)
	checkOf(t, []int{1}, 2, api.OK)
	checkBeast(t, api.Beast{Kinds: 256}, api.ErrArg)
	checkBeast(t, api.Beast{Kinds: 1, Values: [8]int{1}}, api.OK)
	checkMatches(t, 3, api.Query{Need: 4}, false)
	checkMatches(t, 3, api.Query{Need: 1}, true)
	if mask.CheckQuery(api.Query{Any: 256}) != api.ErrArg || mask.CheckQuery(api.Query{Any: 255}) != api.OK {
		t.Error("CheckQuery depends on an earlier call")
	}
}
