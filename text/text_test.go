package text_test

import (
	"fmt"
	"math"
	"math/rand"
	"regexp"
	"slices"
	"strings"
	"testing"

	"vivarium/api"
	"vivarium/text"
	"vivarium/zoo"
)

const (
	most    = 1000000000
	lastGen = 1000000
	maxText = 6000
)

func at(slot, gen int) api.Handle { return api.Handle{Slot: slot, Gen: gen} }

func bond(child, parent api.Handle) api.Bond { return api.Bond{Child: child, Parent: parent} }

func row(slot, gen, kinds int, values ...int) api.Row {
	r := api.Row{Handle: at(slot, gen), Beast: api.Beast{Kinds: kinds}}
	copy(r.Values[:], values)
	return r
}

// oddNumbers are the numbers at which a mistake with signs or bounds shows.
func oddNumbers() []int {
	return []int{
		math.MinInt, math.MinInt + 1, -most - 1, -most, -256, -8, -2, -1, 0, 1, 2, 7, 8, 59, 60, 61,
		255, 256, lastGen, lastGen + 1, most, most + 1, 1 << 32, 1<<32 + 1, math.MaxInt - 1, math.MaxInt,
	}
}

func equal(a, b api.State) bool {
	return slices.Equal(a.Gens, b.Gens) && slices.Equal(a.Rows, b.Rows) && slices.Equal(a.Bonds, b.Bonds)
}

func clone(s api.State) api.State {
	return api.State{Gens: slices.Clone(s.Gens), Rows: slices.Clone(s.Rows), Bonds: slices.Clone(s.Bonds)}
}

func checkPrint(t *testing.T, s api.State, want string) {
	t.Helper()
	if u, e := text.Print(s); u != want || e != api.OK {
		t.Errorf("Print(%v) = %q, %d; want %q, 0", s, u, e, want)
	}
}

func checkPrintError(t *testing.T, s api.State, want api.Errno) {
	t.Helper()
	if u, e := text.Print(s); u != "" || e != want {
		t.Errorf("Print(%v) = %q, %d; want no text, %d", s, u, e, want)
	}
}

func checkParse(t *testing.T, u string, want api.State) {
	t.Helper()
	if s, e := text.Parse(u); !equal(s, want) || e != api.OK {
		t.Errorf("Parse(%q) = %v, %d; want %v, 0", u, s, e, want)
	}
}

func checkParseError(t *testing.T, u string, want api.Errno) {
	t.Helper()
	if s, e := text.Parse(u); !equal(s, api.State{}) || e != want {
		t.Errorf("Parse(%q) = %v, %d; want no state, %d", u, s, e, want)
	}
}

// sample has a dead slot, one of the last generation, and children in slots
// before and after those of their parents.
func sample() (api.State, string) {
	return api.State{
		Gens: []int{4, 7, 0, lastGen - 1, lastGen, 12},
		Rows: []api.Row{
			row(0, 4, 5, -1, 0, 9), row(2, 0, 0), row(3, lastGen-1, 255, most, -most, 0, 1, 20, -300, 4000, 50000), row(5, 12, 128, 0, 0, 0, 0, 0, 0, 0, 100),
		},
		Bonds: []api.Bond{bond(at(0, 4), at(3, lastGen-1)), bond(at(2, 0), at(0, 4)), bond(at(5, 12), at(0, 4))},
	}, "gens 4 7 0 999999 1000000 12\n" +
		"row 0 4 0=-1 2=9\n" +
		"row 2 0\n" +
		"row 3 999999 0=1000000000 1=-1000000000 2=0 3=1 4=20 5=-300 6=4000 7=50000\n" +
		"row 5 12 7=100\n" +
		"bond 0 4 3 999999\n" +
		"bond 2 0 0 4\n" +
		"bond 5 12 0 4\n"
}

// texts are states with their texts.
func texts() map[string]api.State {
	s, u := sample()
	m := map[string]api.State{
		u:                  s,
		"gens\n":           {},
		"gens 0\n":         {Gens: []int{0}},
		"gens 1000000\n":   {Gens: []int{lastGen}},
		"gens 3 20 0 10\n": {Gens: []int{3, 20, 0, 10}},
		"gens 0\nrow 0 0\n": {
			Gens: []int{0}, Rows: []api.Row{row(0, 0, 0)},
		},
		"gens 0 3\nrow 1 3 1=0\n": {
			Gens: []int{0, 3}, Rows: []api.Row{row(1, 3, 2)},
		},
		"gens 0 3\nrow 0 0\nrow 1 3\nbond 0 0 1 3\n": {
			Gens: []int{0, 3}, Rows: []api.Row{row(0, 0, 0), row(1, 3, 0)}, Bonds: []api.Bond{bond(at(0, 0), at(1, 3))},
		},
		"gens" + strings.Repeat(" 7", 60) + "\nrow 9 7\nrow 10 7\nrow 59 7\nbond 9 7 59 7\nbond 10 7 59 7\n": {
			Gens: slices.Repeat([]int{7}, 60), Rows: []api.Row{row(9, 7, 0), row(10, 7, 0), row(59, 7, 0)},
			Bonds: []api.Bond{bond(at(9, 7), at(59, 7)), bond(at(10, 7), at(59, 7))},
		},
	}
	for k := range 8 {
		r := row(0, 2, 1<<k)
		r.Values[k] = 40 - 10*k
		m[fmt.Sprintf("gens 2\nrow 0 2 %d=%d\n", k, r.Values[k])] = api.State{Gens: []int{2}, Rows: []api.Row{r}}
	}
	return m
}

func TestP14PrintAndParse(t *testing.T) {
	for u, s := range texts() {
		checkPrint(t, s, u)
		checkParse(t, u, s)
	}
	checkPrint(t, api.State{Gens: []int{}, Rows: []api.Row{}, Bonds: []api.Bond{}}, "gens\n")
}

func TestP14PrintLoadErrors(t *testing.T) {
	change := func(f func(s *api.State)) api.State {
		s, _ := sample()
		f(&s)
		return s
	}
	checkPrintError(t, api.State{Rows: make([]api.Row, 61)}, api.ErrLarge)
	checkPrintError(t, api.State{Gens: make([]int, 61)}, api.ErrLarge)
	checkPrintError(t, change(func(s *api.State) { s.Gens[1] = -1 }), api.ErrArg)
	checkPrintError(t, change(func(s *api.State) { s.Gens[1] = lastGen + 1 }), api.ErrArg)
	checkPrintError(t, change(func(s *api.State) { s.Rows[3].Slot = 6 }), api.ErrNone)
	checkPrintError(t, change(func(s *api.State) { s.Rows[0].Slot = -1 }), api.ErrNone)
	checkPrintError(t, change(func(s *api.State) { s.Rows[2] = s.Rows[1] }), api.ErrTwice)
	checkPrintError(t, change(func(s *api.State) { s.Rows[2].Slot, s.Rows[2].Gen = 4, lastGen }), api.ErrArg)
	checkPrintError(t, change(func(s *api.State) { s.Rows[2].Gen-- }), api.ErrDead)
	checkPrintError(t, change(func(s *api.State) { s.Rows[0].Kinds = 256 }), api.ErrArg)
	checkPrintError(t, change(func(s *api.State) { s.Rows[0].Kinds = -1 }), api.ErrArg)
	checkPrintError(t, change(func(s *api.State) { s.Rows[0].Values[7] = 1 }), api.ErrForm)
	checkPrintError(t, change(func(s *api.State) { s.Rows[0].Values[0] = most + 1 }), api.ErrArg)
	checkPrintError(t, change(func(s *api.State) { s.Bonds[0].Child.Gen++ }), api.ErrDead)
	checkPrintError(t, change(func(s *api.State) { s.Bonds[2].Parent = at(1, 7) }), api.ErrDead)
	checkPrintError(t, change(func(s *api.State) { s.Bonds[2].Child = at(2, 0) }), api.ErrTwice)
	checkPrintError(t, change(func(s *api.State) { s.Bonds[2] = s.Bonds[1] }), api.ErrTwice)
	checkPrintError(t, change(func(s *api.State) { s.Bonds[2] = bond(at(3, lastGen-1), at(2, 0)) }), api.ErrLoop)
	checkPrintError(t, change(func(s *api.State) { s.Bonds[2].Parent = s.Bonds[2].Child }), api.ErrLoop)
}

func TestP14PrintOrderErrors(t *testing.T) {
	for i := range 3 {
		for j := i + 1; j < 4; j++ {
			s, _ := sample()
			s.Rows[i], s.Rows[j] = s.Rows[j], s.Rows[i]
			checkPrintError(t, s, api.ErrForm)
		}
	}
	for i := range 2 {
		for j := i + 1; j < 3; j++ {
			s, _ := sample()
			s.Bonds[i], s.Bonds[j] = s.Bonds[j], s.Bonds[i]
			checkPrintError(t, s, api.ErrForm)
		}
	}
}

// The errors of zoo.Load precede those of the order.
func TestP14PrintErrorOrder(t *testing.T) {
	s, _ := sample()
	slices.Reverse(s.Rows)
	s.Bonds[2] = s.Bonds[1]
	checkPrintError(t, s, api.ErrTwice)
	s, _ = sample()
	slices.Reverse(s.Bonds)
	s.Bonds[2].Parent.Gen++
	checkPrintError(t, s, api.ErrDead)
	s, _ = sample()
	slices.Reverse(s.Rows)
	s.Gens = append(s.Gens, -1)
	checkPrintError(t, s, api.ErrArg)
}

func TestP14ParseSyntax(t *testing.T) {
	const two = "gens 0 3\nrow 0 0 0=1\nrow 1 3\n"
	checkParse(t, two, api.State{Gens: []int{0, 3}, Rows: []api.Row{row(0, 0, 1, 1), row(1, 3, 0)}})
	for _, u := range []string{
		// lines
		"", "\n", " ", "gens", "gens\n\n", "\ngens\n", "gens\r\n", "gens\n ", "gens\ngens\n", "gens 0\ngens 0\n", "gens\x00\n", "gens\n\x00",
		"row 0 0\n", "row 0 0\ngens 0\n", "gens 0\nrow 0 0", "gens 0\n\nrow 0 0\n", "gens 0\nrow 0 0\n\n", "gens 0\rrow 0 0\n",
		"gens 0\nrow 0 0\ngens\n", "gens 0\nrow 0 0\nrow 0 0\n", "gens 0 3\nrow 1 3\nrow 0 0\n",
		// first words
		"GENS\n", "gen\n", "genss\n", "gens0\n", " gens\n", "gens 0\nrows 0 0\n", "gens 0\nRow 0 0\n", "gens 0\n0 0\n", two + "bonds 0 0 1 3\n",
		// spaces
		"gens \n", "gens  0\n", "gens 0 \n", "gens\t0\n", "gens 0\nrow  0 0\n", "gens 0\nrow 0 0 \n", "gens 0\n row 0 0\n", "gens 0\nrow 0 0  0=1\n",
		"gens 0\nrow 0 0 0 =1\n", "gens 0\nrow 0 0 0= 1\n",
		// numbers
		"gens 00\n", "gens 01\n", "gens +1\n", "gens -0\n", "gens -1\n", "gens 1000001\n", "gens 1_0\n", "gens 0x1\n", "gens 1.0\n", "gens 1e1\n",
		"gens a\n", "gens -\n", "gens 0,1\n", "gens ٣\n", "gens 18446744073709551616\n", "gens 9223372036854775808\n", "gens 99999999999999999999999999\n",
		"gens 0\nrow 00 0\n", "gens 0\nrow 0 00\n", "gens 0\nrow +0 0\n", "gens 0\nrow -0 0\n", "gens 0\nrow 18446744073709551616 0\n",
		// rows
		"gens 0\nrow\n", "gens 0\nrow 0\n", "gens 0\nrow 0 1\n", "gens 0\nrow 1 0\n", "gens 0\nrow -1 0\n", "gens 0\nrow 0 0 0\n", "gens 1000000\nrow 0 1000000\n",
		"gens 0\nrow 0 0=1 0\n", "gens 0\nrow 0=1 0 0\n",
		// components
		"gens 0\nrow 0 0 2=1 0=1\n", "gens 0\nrow 0 0 0=1 0=1\n", "gens 0\nrow 0 0 0=1 0=2\n", "gens 0\nrow 0 0 8=1\n", "gens 0\nrow 0 0 -1=1\n", "gens 0\nrow 0 0 64=1\n",
		"gens 0\nrow 0 0 18446744073709551616=1\n", "gens 0\nrow 0 0 00=1\n", "gens 0\nrow 0 0 +0=1\n", "gens 0\nrow 0 0 -0=1\n", "gens 0\nrow 0 0 0=\n", "gens 0\nrow 0 0 =1\n",
		"gens 0\nrow 0 0 =\n", "gens 0\nrow 0 0 0==1\n", "gens 0\nrow 0 0 0=1=\n", "gens 0\nrow 0 0 0=1=1\n", "gens 0\nrow 0 0 0:1\n", "gens 0\nrow 0 0 0=01\n", "gens 0\nrow 0 0 0=-0\n",
		"gens 0\nrow 0 0 0=+1\n", "gens 0\nrow 0 0 0=--1\n", "gens 0\nrow 0 0 0=1000000001\n", "gens 0\nrow 0 0 0=-1000000001\n", "gens 0\nrow 0 0 0=9223372036854775808\n",
		// bonds
		two + "bond\n", two + "bond 0 0 1\n", two + "bond 0 0 1 3 0\n", two + "bond 0 0 1 3 0=1\n", two + "bond 0 0 1 2\n", two + "bond 0 1 1 3\n", two + "bond 0 0 2 0\n",
		two + "bond 0 0 0 0\n", two + "bond 0 0 1 3\nbond 1 3 0 0\n", two + "bond 0 0 1 3\nbond 0 0 1 3\n", two + "bond 0 0 01 3\n", two + "bond  0 0 1 3\n", two + "bond 0 0 1 3",
		"gens 0 3\nrow 0 0\nbond 0 0 1 3\nrow 1 3\n", "bond 0 0 1 3\n" + two, two + "row 1 3\n", two + "gens 0 3\n",
		"gens 0 0 0\nrow 0 0\nrow 1 0\nrow 2 0\nbond 1 0 2 0\nbond 0 0 2 0\n",
	} {
		checkParseError(t, u, api.ErrSyntax)
	}
}

// Texts that end too early, and texts with a line left out or twice.
func TestP14ParseEveryPart(t *testing.T) {
	_, u := sample()
	lines := strings.SplitAfter(u, "\n")
	for n := range len(u) {
		checkReference(t, u[:n])
	}
	for i := range lines[:len(lines)-1] {
		checkReference(t, strings.Join(slices.Delete(slices.Clone(lines), i, i+1), ""))
		checkReference(t, strings.Join(slices.Insert(slices.Clone(lines), i, lines[i]), ""))
	}
}

// sized returns a state whose text has size bytes: as many zeros as that takes
// are added to its values.
func sized(t *testing.T, size int) (api.State, string) {
	t.Helper()
	s := api.State{Gens: make([]int, 60)}
	for i := range 60 {
		s.Rows = append(s.Rows, row(i, 0, 255, 1, 1, 1, 1, 1, 1, 1, 1))
	}
	u, _ := text.Print(s)
	for i := range size - len(u) {
		s.Rows[i/64].Values[i/8%8] *= 10
	}
	u, e := text.Print(s)
	if e != api.OK || len(u) != size {
		t.Fatalf("a text of %d bytes, %d; want %d", len(u), e, size)
	}
	return s, u
}

func TestP14Large(t *testing.T) {
	for _, size := range []int{maxText - 1, maxText} {
		s, u := sized(t, size)
		checkParse(t, u, s)
		checkParseError(t, u[:size-1], api.ErrSyntax)
	}
	// Print has no such limit.
	_, u := sized(t, maxText+1)
	checkParseError(t, u, api.ErrLarge)
	checkParseError(t, u[1:], api.ErrSyntax)
	for _, n := range []int{maxText + 1, maxText + 2, 1 << 20} {
		for _, c := range []string{"\x00", " ", "\n", "gens\n", "0", "=", "\xff"} {
			checkParseError(t, strings.Repeat(c, n)[:n], api.ErrLarge)
		}
	}
	for _, c := range []string{"\x00", " ", "\n", "gens\n", "gens ", "row 0 0\n", "bond 0 0 0 0\n", "0", "=", "\xff"} {
		checkParseError(t, strings.Repeat(c, maxText)[:maxText], api.ErrSyntax)
	}
}

func TestP14LongestText(t *testing.T) {
	s := api.State{Gens: slices.Repeat([]int{lastGen - 1}, 60)}
	want := "gens" + strings.Repeat(" 999999", 60) + "\n"
	for i := range 60 {
		m := -most
		s.Rows = append(s.Rows, row(i, lastGen-1, 255, m, m, m, m, m, m, m, m))
		want += fmt.Sprintf("row %d 999999", i)
		for k := range 8 {
			want += fmt.Sprintf(" %d=-1000000000", k)
		}
		want += "\n"
	}
	for i := range 59 {
		s.Bonds = append(s.Bonds, bond(at(i, lastGen-1), at(i+1, lastGen-1)))
		want += fmt.Sprintf("bond %d 999999 %d 999999\n", i, i+1)
	}
	checkPrint(t, s, want)
	checkParseError(t, want, api.ErrLarge)
}

var form = regexp.MustCompile(`\Agens( (0|[1-9][0-9]*))*\n` +
	`(row (0|[1-9][0-9]*) (0|[1-9][0-9]*)( [0-7]=(0|-?[1-9][0-9]*))*\n)*` +
	`(bond( (0|[1-9][0-9]*)){4}\n)*\z`)

// reference returns the state with the text u in another way than the package:
// it examines the form first and does not print.
func reference(u string) (api.State, bool) {
	var s api.State
	if !form.MatchString(u) || regexp.MustCompile(`[0-9]{12}`).MatchString(u) {
		return s, false
	}
	for _, line := range strings.Split(u, "\n") {
		words := strings.Fields(line)
		if len(words) == 0 {
			continue
		}
		var numbers []int
		last := -1
		var b api.Beast
		for _, w := range words[1:] {
			var k, n int
			if c, _ := fmt.Sscanf(w, "%d=%d", &k, &n); c == 1 {
				numbers = append(numbers, k)
				continue
			}
			if k <= last {
				return s, false
			}
			last = k
			b.Kinds += 1 << k
			b.Values[k] = n
		}
		switch words[0] {
		case "gens":
			s.Gens = numbers
		case "row":
			s.Rows = append(s.Rows, api.Row{Handle: at(numbers[0], numbers[1]), Beast: b})
		case "bond":
			s.Bonds = append(s.Bonds, bond(at(numbers[0], numbers[1]), at(numbers[2], numbers[3])))
		}
	}
	// A loaded zoo returns rows and bonds in their order.
	z, e := zoo.Load(s)
	return s, e == api.OK && equal(z.State(), s)
}

// checkReference reports whether the text is that of a state.
func checkReference(t *testing.T, u string) bool {
	t.Helper()
	s, ok := reference(u)
	if ok {
		checkParse(t, u, s)
		checkPrint(t, s, u)
	} else {
		checkParseError(t, u, api.ErrSyntax)
	}
	return ok
}

// randomState returns the state of a zoo after some random operations.
func randomState(r *rand.Rand) api.State {
	z := zoo.New()
	handle := func() api.Handle {
		rows, _ := z.Rows(api.Query{})
		if len(rows) == 0 {
			return at(0, 0)
		}
		return rows[r.Intn(len(rows))].Handle
	}
	for range r.Intn(60) {
		op := api.Op{Do: []int{1, 1, 2, 3, 3, 4, 5, 5, 6}[r.Intn(9)], At: handle(), To: handle(), Kind: r.Intn(8), N: r.Intn(2001) - 1000}
		if r.Intn(4) == 0 {
			op.N *= 1000000
		}
		z.Do(op)
	}
	return z.State()
}

func TestP14RandomStates(t *testing.T) {
	for seed := range int64(1000) {
		s := randomState(rand.New(rand.NewSource(seed)))
		u, e := text.Print(s)
		if e != api.OK || !checkReference(t, u) {
			t.Errorf("Print(%v) = %q, %d", s, u, e)
		}
		checkParse(t, u, s)
	}
}

// changed returns the text with one small change.
func changed(r *rand.Rand, u string) string {
	const bytes = "0123456789 =-+\n.gr\x00"
	i := r.Intn(len(u))
	switch c := bytes[r.Intn(len(bytes))]; r.Intn(5) {
	case 0:
		return u[:i] + u[i+1:]
	case 1:
		return u[:i] + string(c) + u[i:]
	case 2: // another line
		lines := strings.SplitAfter(u, "\n")
		j, k := r.Intn(len(lines)), r.Intn(len(lines))
		lines[j], lines[k] = lines[k], lines[j]
		return strings.Join(lines, "")
	case 3: // another word
		words := strings.Split(u, " ")
		j, k := r.Intn(len(words)), r.Intn(len(words))
		words[j] = words[k]
		return strings.Join(words, " ")
	default:
		return u[:i] + string(c) + u[i+1:]
	}
}

func TestP14ChangedTexts(t *testing.T) {
	good, bad := 0, 0
	for seed := range int64(20000) {
		r := rand.New(rand.NewSource(seed))
		u, _ := text.Print(randomState(r))
		for range 1 + r.Intn(2) {
			u = changed(r, u)
		}
		if checkReference(t, u) {
			good++
		} else {
			bad++
		}
	}
	if good < 1000 || bad < 1000 {
		t.Errorf("%d texts of states and %d others", good, bad)
	}
}

// A panic in any of these calls fails the test.
func TestP1NoPanic(t *testing.T) {
	s, u := sample()
	for _, a := range oddNumbers() {
		for _, b := range oddNumbers() {
			text.Print(api.State{Gens: []int{a, b}})
			text.Print(api.State{Gens: s.Gens, Rows: []api.Row{row(a, b, 0)}})
			text.Print(api.State{Gens: s.Gens, Rows: []api.Row{row(0, 4, a, b, b, b, b, b, b, b, b)}})
			text.Print(api.State{Gens: s.Gens, Rows: s.Rows, Bonds: []api.Bond{bond(at(a, b), at(0, 4))}})
			text.Print(api.State{Gens: s.Gens, Rows: s.Rows, Bonds: []api.Bond{bond(at(0, 4), at(a, b))}})
			text.Print(api.State{Bonds: []api.Bond{bond(at(a, b), at(b, a))}})
			for _, f := range []string{"gens %d %d\n", "gens 0\nrow %d %d\n", "gens 0\nrow 0 0 %d=%d\n", u + "bond %d %d 0 4\n", u + "bond 3 999999 %d %d\n"} {
				text.Parse(fmt.Sprintf(f, a, b))
			}
		}
	}
	text.Print(api.State{Gens: make([]int, 100000), Rows: make([]api.Row, 100000), Bonds: make([]api.Bond, 100000)})
	text.Print(api.State{Gens: s.Gens, Rows: s.Rows, Bonds: slices.Repeat(s.Bonds, 100000)})
}

func TestP1NoPanicRandomTexts(t *testing.T) {
	for seed := range int64(3000) {
		r := rand.New(rand.NewSource(seed))
		var u strings.Builder
		for range r.Intn(40) {
			u.WriteString([]string{"gens", "row", "bond", " ", " ", "\n", "0", "1", "=", "-", "12", "\xff", string(rune(r.Intn(300)))}[r.Intn(13)])
		}
		checkReference(t, u.String())
	}
}

// spoil overwrites a state, with all its capacity.
func spoil(s api.State) {
	for i := range s.Gens[:cap(s.Gens)] {
		s.Gens[:cap(s.Gens)][i] = -9
	}
	for i := range s.Rows[:cap(s.Rows)] {
		s.Rows[:cap(s.Rows)][i] = row(9, 9, 9)
	}
	for i := range s.Bonds[:cap(s.Bonds)] {
		s.Bonds[:cap(s.Bonds)][i] = bond(at(9, 9), at(9, 9))
	}
}

func TestP2ArgumentsStayAsTheyAre(t *testing.T) {
	s, u := sample()
	mixed := clone(s)
	slices.Reverse(mixed.Rows)
	slices.Reverse(mixed.Bonds)
	for _, given := range []api.State{s, mixed} {
		wide := api.State{Gens: slices.Grow(clone(given).Gens, 5), Rows: slices.Grow(clone(given).Rows, 5), Bonds: slices.Grow(clone(given).Bonds, 5)}
		whole := api.State{Gens: wide.Gens[:cap(wide.Gens)], Rows: wide.Rows[:cap(wide.Rows)], Bonds: wide.Bonds[:cap(wide.Bonds)]}
		before := clone(whole)
		text.Print(wide)
		if !equal(whole, before) {
			t.Errorf("Print has changed its argument or the capacity behind it: %v; want %v", whole, before)
		}
	}
	checkPrint(t, s, u)
}

func TestP2ArgumentsAreNotKept(t *testing.T) {
	s, u := sample()
	printed, _ := text.Print(s)
	spoil(s)
	if printed != u {
		t.Errorf("the text has changed with the state: %q", printed)
	}
	s, _ = sample()
	checkPrint(t, s, u)
}

func TestP2ResultsAreNew(t *testing.T) {
	for u, s := range texts() {
		for range 2 {
			one, _ := text.Parse(u)
			two, _ := text.Parse(u)
			spoil(one)
			if !equal(two, s) {
				t.Errorf("two results of Parse(%q) share memory: %v", u, two)
			}
			checkParse(t, u, s)
		}
	}
}

func TestP2NoStateBetweenCalls(t *testing.T) {
	s, u := sample()
	for range 2 {
		checkParseError(t, u+"bond", api.ErrSyntax)
		checkParse(t, "gens\n", api.State{})
		checkParse(t, u, s)
		checkPrintError(t, api.State{Gens: []int{-1}}, api.ErrArg)
		checkPrint(t, api.State{}, "gens\n")
		checkPrint(t, s, u)
	}
}
