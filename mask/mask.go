// Package mask: sets of kinds: see doc/01-mask.md.
package mask

import (
	"math/bits"

	"vivarium/api"
)

// Of returns the set of the components in l.
func Of(l []int) (int, api.Errno) {
	// A separate pass, because ErrArg anywhere in l precedes ErrTwice.
	for _, k := range l {
		if !isKind(k) {
			return 0, api.ErrArg
		}
	}
	m := 0
	for _, k := range l {
		if has(m, k) {
			return 0, api.ErrTwice
		}
		m |= 1 << k
	}
	return m, api.OK
}

// List returns the components of the set m in increasing order.
func List(m int) []int {
	l := make([]int, 0, Count(m))
	for k := range api.MaxKinds {
		if has(m, k) {
			l = append(l, k)
		}
	}
	return l
}

// Count returns the number of components of the set m.
func Count(m int) int {
	return bits.OnesCount(uint(m & api.AllKinds))
}

// Matches reports whether the set m matches the query q. Unlike List and
// Count, it regards the bits above the lowest eight, too.
func Matches(m int, q api.Query) bool {
	return m&q.Need == q.Need && m&q.Not == 0 && (q.Any == 0 || m&q.Any != 0)
}

// CheckBeast returns the first error of an entity, or OK.
func CheckBeast(b api.Beast) api.Errno {
	if !isSet(b.Kinds) {
		return api.ErrArg
	}
	for k, n := range b.Values {
		if !has(b.Kinds, k) && n != 0 {
			return api.ErrForm
		}
		if n < -api.MaxValue || n > api.MaxValue {
			return api.ErrArg
		}
	}
	return api.OK
}

// CheckQuery returns the error of a query, or OK.
func CheckQuery(q api.Query) api.Errno {
	if !isSet(q.Need) || !isSet(q.Not) || !isSet(q.Any) {
		return api.ErrArg
	}
	return api.OK
}

func isKind(k int) bool { return k >= 0 && k < api.MaxKinds }

func isSet(m int) bool { return m >= 0 && m <= api.AllKinds }

func has(m, k int) bool { return m>>k&1 == 1 }
