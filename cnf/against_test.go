package cnf_test

import (
	"math"
	"math/rand/v2"
	"slices"
	"sort"
	"testing"

	"chandler/api"
	"chandler/cnf"
)

// models: all models of so many variables.
func models(n int) [][]bool {
	l := [][]bool{nil}
	for range n {
		var longer [][]bool
		for _, m := range l {
			longer = append(longer, append(slices.Clone(m), false), append(slices.Clone(m), true))
		}
		l = longer
	}
	return l
}

// holds: has a clause a literal that is true? (The model has all variables.)
func holds(c []int, model []bool) bool {
	for _, lit := range c {
		if lit > 0 && model[lit-1] || lit < 0 && !model[-lit-1] {
			return true
		}
	}
	return false
}

// all: do all clauses hold?
func all(l [][]int, model []bool) bool {
	for _, c := range l {
		if !holds(c, model) {
			return false
		}
	}
	return true
}

// clauses: all clauses over so many variables in order, each literal once.
func clauses(n int) [][]int {
	l := [][]int{nil}
	for v := 1; v <= n; v++ {
		var longer [][]int
		for _, c := range l {
			for _, more := range [][]int{nil, {-v}, {v}, {-v, v}} {
				longer = append(longer, append(slices.Clone(c), more...))
			}
		}
		l = longer
	}
	return l
}

// set: literals by themselves.
func set(lists ...[]int) map[int]int {
	m := map[int]int{}
	for _, l := range lists {
		for _, lit := range l {
			m[lit]++
		}
	}
	return m
}

// listed: a set's literals in order, told by twice the variable.
func listed(m map[int]int) []int {
	var l []int
	for lit := range m {
		l = append(l, lit)
	}
	key := func(lit int) int {
		if lit < 0 {
			return -2 * lit
		}
		return 2*lit + 1
	}
	sort.Slice(l, func(i, j int) bool { return key(l[i]) < key(l[j]) })
	return l
}

// clashes: has a set contraries?
func clashes(m map[int]int) bool {
	for lit := range m {
		if m[-lit] > 0 {
			return true
		}
	}
	return false
}

// spread: Spread by rounds, each over all clauses by what was true ahead of it; contraries may become true, which is told at the end.
func spread(f cnf.Formula, lits []int) ([]int, bool) {
	is := set(lits)
	for range f.N + 1 {
		var next []int
		for _, c := range f.Clauses {
			left := set(c)
			for lit := range is {
				delete(left, -lit)
			}
			if len(left) == 0 {
				return nil, true
			}
			if len(left) == 1 {
				next = append(next, listed(left)...)
			}
		}
		for _, lit := range next {
			is[lit]++
		}
	}
	if clashes(is) {
		return nil, true
	}
	return listed(is), false
}

// TestResolveAll: all pairs of clauses over three variables, on each, in all models.
func TestResolveAll(t *testing.T) {
	l, worlds := clauses(3), models(3)
	for _, a := range l {
		for _, b := range l {
			for v := -1; v <= 4; v++ {
				got, code := cnf.Resolve(a, b, v)
				left, right := set(a), set(b)
				has := v > 0 && left[v] > 0 && right[-v] > 0
				delete(left, v)
				delete(right, -v)
				both := set(listed(left), listed(right))
				if want := has && !clashes(both); want != (code == api.OK) || !want && (code != api.Wrong || got != nil) {
					t.Fatal(a, b, v, got, code)
				}
				if code != api.OK {
					continue
				}
				if !slices.Equal(got, listed(both)) {
					t.Fatal(a, b, v, got)
				}
				for _, m := range worlds {
					if holds(a, m) && holds(b, m) && !holds(got, m) {
						t.Fatal("it doesn't follow", a, b, v, got, m)
					}
				}
			}
		}
	}
}

// TestPairsAll: all pairs of clauses over two and three variables, held against each other.
func TestPairsAll(t *testing.T) {
	for _, a := range clauses(3) {
		if cnf.Taut(a) != clashes(set(a)) {
			t.Error(a)
		}
		for _, b := range clauses(3) {
			in := true
			for lit := range set(a) {
				in = in && set(b)[lit] > 0
			}
			if cnf.Subsumes(a, b) != in {
				t.Error(a, b)
			}
		}
	}
}

// TestSpreadAll: all formulas of two clauses over two variables, and all literals.
func TestSpreadAll(t *testing.T) {
	l, worlds := clauses(2), models(2)
	for _, a := range l {
		for _, b := range l {
			for _, lits := range l {
				sound(t, of(2, a, b), lits, worlds)
			}
		}
	}
}

// sound: Spread is as counted by rounds, and what it and Plain say holds in all models.
func sound(t *testing.T, f cnf.Formula, lits []int, worlds [][]bool) {
	t.Helper()
	got, clash := f.Spread(lits)
	want, wantClash := spread(f, lits)
	if clash != wantClash || !slices.Equal(got, want) {
		t.Fatal(f, lits, got, clash, want, wantClash)
	}
	var contraries []int
	for _, lit := range lits {
		contraries = append(contraries, -lit)
	}
	if _, said := spread(f, contraries); f.Plain(lits) != said {
		t.Fatal("plain", f, lits)
	}
	plain := f.Plain(lits)
	for _, m := range worlds {
		is := all(f.Clauses, m)
		if f.Holds(m) != is {
			t.Fatal("holds", f, m)
		}
		if is && plain && !holds(lits, m) {
			t.Fatal("plain, and doesn't follow", f, lits, m)
		}
		for _, lit := range lits {
			is = is && holds(c(lit), m)
		}
		if is && clash {
			t.Fatal("a clash, and a model", f, lits, m)
		}
		for _, lit := range got {
			if is && !holds(c(lit), m) {
				t.Fatal("spread, and not true", f, lits, lit, m)
			}
		}
	}
}

// dice throw literals, clauses, formulas.
type dice struct{ *rand.Rand }

func (d dice) lit(n int) int {
	if d.IntN(2) == 0 {
		return -1 - d.IntN(n)
	}
	return 1 + d.IntN(n)
}

func (d dice) clause(n, most int) []int {
	var c []int
	for range d.IntN(most + 1) {
		c = append(c, d.lit(n))
	}
	return c
}

func (d dice) formula(n, many int) cnf.Formula {
	f := cnf.Formula{N: n}
	for range d.IntN(many + 1) {
		f.Clauses = append(f.Clauses, append(d.clause(n, 3), d.lit(n)))
	}
	return f
}

func TestSpreadAny(t *testing.T) {
	d := dice{rand.New(rand.NewPCG(12, 1))}
	worlds := map[int][][]bool{}
	said := map[string]int{}
	for range 20000 {
		n := 1 + d.IntN(6)
		if worlds[n] == nil {
			worlds[n] = models(n)
		}
		f, lits := d.formula(n, 9), d.clause(n, 3)
		sound(t, f, lits, worlds[n])
		got, clash := f.Spread(lits)
		switch {
		case clash:
			said["clash"]++
		case len(got) > len(lits):
			said["more"]++
		}
		if f.Plain(lits) {
			said["plain"]++
		}
	}
	if said["clash"] < 1000 || said["more"] < 1000 || said["plain"] < 1000 {
		t.Error("the dice say too little", said)
	}
}

// TestSpreadWide: formulas that are too great for all their models.
func TestSpreadWide(t *testing.T) {
	d := dice{rand.New(rand.NewPCG(12, 2))}
	for range 30 {
		n := 20 + d.IntN(381)
		f := cnf.Formula{N: n}
		for range n {
			f.Clauses = append(f.Clauses, c(d.lit(n), d.lit(n)))
		}
		lits := d.clause(n, 3)
		got, clash := f.Spread(lits)
		want, wantClash := spread(f, lits)
		if clash != wantClash || !slices.Equal(got, want) {
			t.Fatal(f, lits, got, clash, want, wantClash)
		}
	}
}

// TestClausesAny: clauses with literals twice and in any order, held against sets.
func TestClausesAny(t *testing.T) {
	d := dice{rand.New(rand.NewPCG(12, 3))}
	for range 20000 {
		n := 1 + d.IntN(9)
		a, b := d.clause(n, 8), d.clause(n, 8)
		if !slices.Equal(cnf.Norm(a), listed(set(a))) {
			t.Fatal(a, cnf.Norm(a))
		}
		if cnf.Taut(a) != clashes(set(a)) {
			t.Fatal(a)
		}
		in := len(set(a, b)) == len(set(b))
		if cnf.Subsumes(a, b) != in {
			t.Fatal(a, b)
		}
		v := 1 + d.IntN(n)
		left, right := set(a), set(b)
		has := left[v] > 0 && right[-v] > 0
		delete(left, v)
		delete(right, -v)
		both := set(listed(left), listed(right))
		got, code := cnf.Resolve(a, b, v)
		if has && !clashes(both) {
			if code != api.OK || !slices.Equal(got, listed(both)) {
				t.Fatal(a, b, v, got, code)
			}
		} else if code != api.Wrong || got != nil {
			t.Fatal(a, b, v, got, code)
		}
	}
}

// TestAnything: at all arguments every call ends, and none panics.
func TestAnything(t *testing.T) {
	d := dice{rand.New(rand.NewPCG(12, 4))}
	odd := []int{0, 1, -1, 2, -2, 3, 400, -400, 401, math.MinInt, math.MinInt + 1, math.MaxInt, math.MaxInt - 1, 1 << 40}
	number := func() int { return odd[d.IntN(len(odd))] }
	list := func() []int {
		var l []int
		for range d.IntN(5) {
			l = append(l, number())
		}
		return l
	}
	for range 20000 {
		a, b, v := list(), list(), number()
		f := of(number(), a, b, list())
		cnf.Var(v)
		cnf.CheckClause(a, v)
		cnf.Norm(a)
		cnf.Taut(a)
		cnf.Resolve(a, b, v)
		cnf.Subsumes(a, b)
		cnf.True(v, []bool{true, false})
		f.Holds([]bool{false, true})
		bad := f.Check() != api.OK || cnf.CheckClause(a, f.N) != api.OK
		if got, clash := f.Spread(a); bad && (got != nil || clash) {
			t.Fatal(f, a, got, clash)
		}
		if bad && f.Plain(a) {
			t.Fatal(f, a)
		}
	}
}
