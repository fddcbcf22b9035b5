package solve_test

import (
	"math"
	"math/rand/v2"
	"slices"
	"sort"
	"testing"

	"chandler/api"
	"chandler/cnf"
	"chandler/solve"
)

// few is how many variables a formula has at most that is tried in all its models.
const few = 7

// models: all models of so many variables.
func models(n int) [][]bool {
	l := [][]bool{nil}
	for range n {
		var longer [][]bool
		for _, m := range l {
			longer = append(longer, append(slices.Clone(m), false), append(slices.Clone(m), true))
		}
		l = longer
	}
	return l
}

// holds: has a clause a literal that is true? (The model has all variables.)
func holds(c []int, model []bool) bool {
	for _, lit := range c {
		if lit > 0 && model[lit-1] || lit < 0 && !model[-lit-1] {
			return true
		}
	}
	return false
}

// each: do all clauses hold?
func each(l [][]int, model []bool) bool {
	for _, c := range l {
		if !holds(c, model) {
			return false
		}
	}
	return true
}

// units: literals as clauses of one.
func units(l []int) [][]int {
	var out [][]int
	for _, lit := range l {
		out = append(out, c(lit))
	}
	return out
}

// set: literals by themselves.
func set(l []int) map[int]int {
	m := map[int]int{}
	for _, lit := range l {
		m[lit]++
	}
	return m
}

// listed: a set's literals in order, told by twice the variable.
func listed(m map[int]int) []int {
	var l []int
	for lit := range m {
		l = append(l, lit)
	}
	key := func(lit int) int {
		if lit < 0 {
			return -2 * lit
		}
		return 2*lit + 1
	}
	sort.Slice(l, func(i, j int) bool { return key(l[i]) < key(l[j]) })
	return l
}

// contraries: each literal's.
func contraries(l []int) []int {
	var out []int
	for _, lit := range l {
		out = append(out, -lit)
	}
	return out
}

// least: the least variable of which a set has both literals (0: there is none).
func least(m map[int]int) int {
	v := 0
	for lit := range m {
		if lit > 0 && m[-lit] > 0 && (v == 0 || lit < v) {
			v = lit
		}
	}
	return v
}

// out: what comes out of a step, by sets; false: it isn't right.
func out(f cnf.Formula, steps []solve.Step, at int) ([]int, bool) {
	step := steps[at]
	if len(step.From) == 0 || len(step.From) != len(step.On)+1 {
		return nil, false
	}
	var so map[int]int
	for i, number := range step.From {
		if number < 1 || number > len(f.Clauses)+at {
			return nil, false
		}
		next := map[int]int{}
		if number <= len(f.Clauses) {
			next = set(f.Clauses[number-1])
		} else {
			next = set(steps[number-len(f.Clauses)-1].Clause)
		}
		if i == 0 {
			so = next
			continue
		}
		v := step.On[i-1]
		if v < 1 {
			return nil, false
		}
		if so[-v] > 0 {
			v = -v
		}
		if so[v] == 0 || next[-v] == 0 {
			return nil, false
		}
		delete(so, v)
		delete(next, -v)
		for lit := range next {
			so[lit]++
		}
		if least(so) != 0 {
			return nil, false
		}
	}
	return listed(so), true
}

// same: are steps the same, each by each?
func same(a, b []solve.Step) bool {
	return slices.EqualFunc(a, b, func(x, y solve.Step) bool {
		return slices.Equal(x.Clause, y.Clause) && slices.Equal(x.From, y.From) && slices.Equal(x.On, y.On)
	})
}

// judge says whether what a solver tells is so.
type judge struct {
	t *testing.T
	f cnf.Formula
	s *solve.Solver
}

// ask: a result that is so, as far as can be told.
func (j judge) ask(assume []int, budget int) solve.Result {
	j.t.Helper()
	ahead := j.s.Proof()
	r, code := j.s.Solve(assume, budget)
	j.said(assume, budget, ahead, r, code)
	return r
}

// said: is what was told, behind steps that were made ahead, so?
func (j judge) said(assume []int, budget int, ahead []solve.Step, r solve.Result, code api.Errno) {
	j.t.Helper()
	steps := j.s.Proof()
	fail := func(why string) {
		j.t.Helper()
		j.t.Fatal(why, j.f, assume, budget, r, code, steps)
	}
	if code != api.OK || r.Steps < 0 || r.Steps > max(budget, 0) {
		fail("steps")
	}
	if len(steps) < len(ahead) || !same(steps[:len(ahead)], ahead) {
		fail("what was made is there no more")
	}
	for i := len(ahead); i < len(steps); i++ {
		if clause, right := out(j.f, steps, i); !right || !slices.Equal(clause, steps[i].Clause) {
			fail("a step isn't right")
		}
	}
	switch r.Status {
	case solve.Sat:
		j.sat(assume, r, fail)
	case solve.Unsat:
		j.unsat(assume, len(ahead), steps, r, fail)
	case solve.Limit:
		enough := solve.Bound(j.f.N)
		if j.f.N <= 2 && len(j.f.Clauses) <= 3 {
			enough = 1000
		}
		if budget >= enough || len(r.Model) != 0 || len(r.Core) != 0 || least(set(assume)) != 0 {
			fail("it is given up")
		}
	default:
		fail("no such status")
	}
	if j.f.N <= few {
		j.worlds(assume, steps[len(ahead):], r, fail)
	}
}

// sat: the model is one, and all that is assumed is true.
func (j judge) sat(assume []int, r solve.Result, fail func(string)) {
	if len(r.Model) != j.f.N || len(r.Core) != 0 || !each(j.f.Clauses, r.Model) || !each(units(assume), r.Model) {
		fail("no model")
	}
}

// unsat: the core is one, and there is a step that says so.
func (j judge) unsat(assume []int, ahead int, steps []solve.Step, r solve.Result, fail func(string)) {
	if len(r.Model) != 0 || !slices.Equal(r.Core, listed(set(r.Core))) || !cnf.Subsumes(r.Core, assume) {
		fail("no core")
	}
	if v := least(set(assume)); v != 0 {
		if !slices.Equal(r.Core, c(-v, v)) || r.Steps != 0 || len(steps) != ahead {
			fail("contraries")
		}
		return
	}
	says := func(x solve.Step) bool { return slices.Equal(x.Clause, contraries(r.Core)) }
	if !slices.ContainsFunc(steps, says) || len(r.Core) == 0 && !says(steps[len(steps)-1]) {
		fail("no step says so")
	}
}

// worlds: all is so in all models.
func (j judge) worlds(assume []int, made []solve.Step, r solve.Result, fail func(string)) {
	wanted := j.f.Clauses
	if r.Status == solve.Unsat {
		wanted = append(slices.Clone(wanted), units(r.Core)...)
	}
	some := false
	for _, m := range models(j.f.N) {
		is := each(j.f.Clauses, m)
		for _, x := range made {
			if is && !holds(x.Clause, m) {
				fail("a clause that doesn't follow")
			}
		}
		some = some || is && each(units(assume), m)
		if r.Status == solve.Unsat && each(wanted, m) {
			fail("the core has a model")
		}
	}
	if some && r.Status == solve.Unsat || !some && r.Status == solve.Sat {
		fail("it isn't so")
	}
}

// clauses: all clauses over so many variables in order, each literal once.
func clauses(n int) [][]int {
	l := [][]int{nil}
	for v := 1; v <= n; v++ {
		var longer [][]int
		for _, c := range l {
			for _, more := range [][]int{nil, {-v}, {v}, {-v, v}} {
				longer = append(longer, append(slices.Clone(c), more...))
			}
		}
		l = longer
	}
	return l
}

// formulas: all of so many variables, and of clauses so many at most.
func formulas(n, most int) []cnf.Formula {
	all := []cnf.Formula{of(n)}
	for at := 0; at < len(all); at++ {
		if f := all[at]; len(f.Clauses) < most {
			for _, x := range clauses(n) {
				all = append(all, of(n, append(slices.Clone(f.Clauses), x)...))
			}
		}
	}
	return all
}

// TestSmallAll: all formulas over two variables at most, of three clauses at most, under all that one may assume, by a solver of their own, and by one that is asked again.
func TestSmallAll(t *testing.T) {
	for n := range 3 {
		for _, f := range formulas(n, 3) {
			again := judge{t, f, solver(t, f)}
			for _, assume := range clauses(n) {
				again.ask(assume, 1000)
				first := judge{t, f, solver(t, f)}.ask(assume, 1000)
				budgets(t, f, assume, first)
			}
		}
	}
}

// budgets: solvers of their own come to the same with what a search took, and with more; with less they come to the same, or to nothing.
func budgets(t *testing.T, f cnf.Formula, assume []int, first solve.Result) {
	t.Helper()
	like := func(r solve.Result) bool {
		return r.Status == first.Status && r.Steps == first.Steps && slices.Equal(r.Model, first.Model) && slices.Equal(r.Core, first.Core)
	}
	for _, budget := range []int{first.Steps, first.Steps + 1, solve.Bound(f.N), api.MaxBudget, math.MaxInt} {
		if budget < first.Steps {
			continue
		}
		if r := (judge{t, f, solver(t, f)}).ask(assume, budget); !like(r) {
			t.Fatal(f, assume, budget, r, first)
		}
	}
	for _, budget := range []int{0, -1, math.MinInt, 1, first.Steps / 2, first.Steps - 1} {
		r := judge{t, f, solver(t, f)}.ask(assume, budget)
		if r.Status != solve.Limit && !like(r) {
			t.Fatal(f, assume, budget, r, first)
		}
	}
}

// dice throw literals, clauses, formulas.
type dice struct{ *rand.Rand }

func (d dice) lit(n int) int {
	if d.IntN(2) == 0 {
		return -1 - d.IntN(n)
	}
	return 1 + d.IntN(n)
}

// clause: from so many literals to so many.
func (d dice) clause(n, from, to int) []int {
	var c []int
	for range from + d.IntN(to-from+1) {
		c = append(c, d.lit(n))
	}
	return c
}

func (d dice) formula(n, many, from, to int) cnf.Formula {
	f := of(n)
	for range many {
		f.Clauses = append(f.Clauses, d.clause(n, from, to))
	}
	return f
}

// hard: a formula of clauses of three, as many as make a model neither likely nor unlikely.
func (d dice) hard(n int) cnf.Formula {
	f := of(n)
	for len(f.Clauses) < n*43/10 {
		if x := d.clause(n, 3, 3); len(set(x)) == 3 && least(set(x)) == 0 {
			f.Clauses = append(f.Clauses, x)
		}
	}
	return f
}

// budget: any, most of them small.
func (d dice) budget(n int) int {
	some := []int{0, 0, 1, 2, 3, 10, -1, math.MinInt, solve.Bound(n), api.MaxBudget, api.MaxBudget + 1, math.MaxInt}
	return some[d.IntN(len(some))]
}

// TestAny: small formulas, by solvers that are asked again and again, under any assumptions, with any budgets.
func TestAny(t *testing.T) {
	d := dice{rand.New(rand.NewPCG(14, 1))}
	var said [4]int
	stepped := 0
	for range 2500 {
		n := 1 + d.IntN(few)
		f := d.formula(n, d.IntN(6*n), d.IntN(3), 3)
		if d.IntN(3) > 0 {
			f = d.hard(max(n, few-2))
		}
		j := judge{t, f, solver(t, f)}
		for range 6 {
			assume := d.clause(f.N, 0, 2)
			r := j.ask(assume, d.budget(f.N))
			said[r.Status]++
			if r.Steps > 0 {
				stepped++
			}
			if d.IntN(10) == 0 {
				budgets(t, f, assume, judge{t, f, solver(t, f)}.ask(assume, solve.Bound(f.N)))
			}
		}
	}
	if said[solve.Sat] < 1000 || said[solve.Unsat] < 1000 || said[solve.Limit] < 300 || stepped < 1000 {
		t.Error("the dice say too little", said, stepped)
	}
}

// TestHard: formulas that are too great for all their models: each step is followed.
func TestHard(t *testing.T) {
	d := dice{rand.New(rand.NewPCG(14, 2))}
	var said [4]int
	for range 24 {
		n := 30 + d.IntN(90)
		f := d.hard(n)
		j := judge{t, f, solver(t, f)}
		first := j.ask(nil, api.MaxBudget)
		said[first.Status]++
		if first.Status != solve.Sat {
			continue
		}
		for range 3 {
			r := j.ask(d.clause(n, 1, 9), api.MaxBudget)
			said[r.Status]++
		}
		// Behind all that what was so is so.
		if r := j.ask(nil, api.MaxBudget); r.Status != solve.Sat {
			t.Error("it was so", f)
		}
	}
	if said[solve.Sat] < 10 || said[solve.Unsat] < 10 || said[solve.Limit] != 0 {
		t.Error("the dice say too little", said)
	}
}

// TestBelowBound: formulas of few variables and any clauses are never given up with Bound.
func TestBelowBound(t *testing.T) {
	d := dice{rand.New(rand.NewPCG(14, 3))}
	for range 3000 {
		n := d.IntN(4)
		f := of(n)
		if n > 0 {
			f = d.formula(n, d.IntN(20), 0, 4)
		}
		j := judge{t, f, solver(t, f)}
		for range 4 {
			var assume []int
			if n > 0 {
				assume = d.clause(n, 0, n)
			}
			if r := j.ask(assume, solve.Bound(n)); r.Status == solve.Limit {
				t.Fatal(f, assume, r)
			}
		}
	}
}

// TestLimited: a hard formula by budgets that grow, in one solver and in solvers of their own; at last it is known.
func TestLimited(t *testing.T) {
	f := holes(6, 5)
	first := judge{t, f, solver(t, f)}.ask(nil, api.MaxBudget)
	if first.Status != solve.Unsat || first.Steps < 10 {
		t.Fatal(first)
	}
	budgets(t, f, nil, first)
	for _, budget := range []int{0, 1, 7, first.Steps - 1} {
		if r := (judge{t, f, solver(t, f)}).ask(nil, budget); r.Status != solve.Limit || r.Steps != budget {
			t.Error(budget, r)
		}
	}
	again := judge{t, f, solver(t, f)}
	for _, budget := range []int{0, -1, 1, 2, 5} {
		if r := again.ask(nil, budget); r.Status != solve.Limit || r.Steps != max(budget, 0) {
			t.Error(budget, r)
		}
	}
	if r := again.ask(nil, api.MaxBudget); r.Status != solve.Unsat || len(r.Core) != 0 {
		t.Error(r)
	}
}

// TestSameAgain: asked the same at once, it comes to the same with what it took.
func TestSameAgain(t *testing.T) {
	d := dice{rand.New(rand.NewPCG(14, 4))}
	for range 600 {
		n := 3 + d.IntN(30)
		f := d.hard(n)
		j := judge{t, f, solver(t, f)}
		for range 4 {
			assume := d.clause(n, 0, 5)
			first := j.ask(assume, api.MaxBudget)
			if r := j.ask(assume, first.Steps); r.Status != first.Status || !slices.Equal(r.Model, first.Model) {
				t.Fatal(f, assume, first, r)
			}
		}
	}
}

// TestAlike: two solvers that are told the same answer the same.
func TestAlike(t *testing.T) {
	d := dice{rand.New(rand.NewPCG(14, 5))}
	for range 60 {
		n := 20 + d.IntN(40)
		f := d.hard(n)
		one, other := solver(t, f), solver(t, f)
		for range 4 {
			assume, budget := d.clause(n, 0, 6), d.budget(n)
			a, codeA := one.Solve(assume, budget)
			b, codeB := other.Solve(assume, budget)
			if codeA != codeB || a.Status != b.Status || a.Steps != b.Steps || !slices.Equal(a.Model, b.Model) || !slices.Equal(a.Core, b.Core) {
				t.Fatal(f, assume, budget, a, b)
			}
			if !same(one.Proof(), other.Proof()) {
				t.Fatal("steps", f, assume, budget)
			}
		}
	}
}

// TestFar: as many variables and clauses as there may be.
func TestFar(t *testing.T) {
	d := dice{rand.New(rand.NewPCG(14, 6))}
	n := api.MaxVars
	f := of(n)
	for v := n; v > 1; v-- {
		f.Clauses = append(f.Clauses, c(-(v-1), v))
	}
	for len(f.Clauses) < api.MaxClauses {
		f.Clauses = append(f.Clauses, append(d.clause(n, 2, 30), n))
	}
	j := judge{t, f, solver(t, f)}
	for _, assume := range [][]int{nil, c(1), c(1, -n), c(-n), c(n), c(-n, n-1)} {
		if r := j.ask(assume, api.MaxBudget); r.Status == solve.Limit {
			t.Error(assume, r)
		}
	}
	// All are assumed, one each: what one decision makes true, the next one assumes.
	var up, down []int
	for v := range n {
		up, down = append(up, v+1), append(down, -v-1)
	}
	for _, assume := range [][]int{up, down} {
		j.ask(assume, api.MaxBudget)
		j.ask(assume[:n-1], api.MaxBudget)
	}
}

// roomy: literals with spare room, in which something stands.
func roomy(lits ...int) []int {
	l := append(slices.Clone(lits), 77, 78, 79)
	return l[:len(lits)]
}

// whole: a list with its spare room.
func whole(l []int) []int { return slices.Clone(l[:len(l)+3]) }

// TestNothingChanged: what is handed in is as it was, its spare room too, and isn't kept.
func TestNothingChanged(t *testing.T) {
	a, b := roomy(3, 1, 2, 2), roomy(2, -1, 3)
	list := append(make([][]int, 0, 9), a, b, c(3, -2), c(-3, 4, 2), c(-3, -4, 1), c(-3, -4, -1))
	keepA, keepB := whole(a), whole(b)
	f := of(4, list...)
	s := solver(t, f)
	assume := roomy(3, -2, 3)
	keep := whole(assume)
	first, _ := s.Solve(assume, api.MaxBudget)
	if !slices.Equal(whole(a), keepA) || !slices.Equal(whole(b), keepB) || !slices.Equal(whole(assume), keep) {
		t.Error(whole(a), whole(b), whole(assume))
	}
	if len(f.Clauses) != 6 || list[:9][6] != nil || !slices.Equal(list[2], c(3, -2)) {
		t.Error(list[:9])
	}
	// The formula becomes another one, what was assumed, too; the solver's stays.
	other := solver(t, of(4, slices.Clone(list)...))
	kept := of(4, c(3, 1, 2, 2), c(2, -1, 3), c(3, -2), c(-3, 4, 2), c(-3, -4, 1), c(-3, -4, -1))
	for _, l := range append(list, assume) {
		for i := range l {
			l[i] = 1
		}
	}
	for i := range list {
		list[i] = c()
	}
	for _, assume := range [][]int{c(3, -2, 3), nil, c(4), c(-1), c(1)} {
		judge{t, kept, s}.ask(assume, api.MaxBudget)
		judge{t, kept, other}.ask(assume, api.MaxBudget)
	}
	if r, _ := solver(t, kept).Solve(c(3, -2, 3), api.MaxBudget); r.Status != first.Status || !slices.Equal(r.Model, first.Model) {
		t.Error(r, first)
	}
}

// TestAnew: what is answered may be changed: nobody else has it.
func TestAnew(t *testing.T) {
	f := holes(5, 4)
	f.N++
	for i, x := range f.Clauses {
		f.Clauses[i] = append(x, -f.N)
	}
	s := solver(t, f)
	for range 3 {
		r, _ := s.Solve(c(f.N), api.MaxBudget)
		spoil(r.Core)
		r, _ = s.Solve(nil, api.MaxBudget)
		for i := range r.Model {
			r.Model[i] = !r.Model[i]
		}
		for _, x := range s.Proof() {
			spoil(x.Clause)
			spoil(x.From)
			spoil(x.On)
		}
		l := s.Proof()
		spoil(l[0].Clause)
		l[0] = solve.Step{}
		whole := judge{t, f, s}
		for _, assume := range [][]int{c(f.N), nil, c(-f.N, 1)} {
			r, code := s.Solve(assume, api.MaxBudget)
			whole.said(assume, api.MaxBudget, nil, r, code)
		}
	}
}

// TestApart: no two lists of an answer share anything.
func TestApart(t *testing.T) {
	s := solver(t, holes(4, 3))
	s.Solve(nil, api.MaxBudget)
	var lists [][]int
	for _, x := range s.Proof() {
		lists = append(lists, x.Clause, x.From, x.On)
	}
	for i, l := range lists {
		for j := range l[:cap(l)] {
			l[:cap(l)][j] = i
		}
	}
	for i, l := range lists {
		if len(l) > 0 && slices.ContainsFunc(l[:cap(l)], func(x int) bool { return x != i }) {
			t.Fatal("shared", i, l)
		}
	}
}

// spoil: other numbers, in the spare room, too.
func spoil(l []int) {
	for i := range l[:cap(l)] {
		l[:cap(l)][i] = 55
	}
}

// TestAnything: at all arguments every call ends, and none panics; what may not be changes nothing.
func TestAnything(t *testing.T) {
	d := dice{rand.New(rand.NewPCG(14, 7))}
	odd := []int{0, 1, -1, 2, -2, 3, 1, -1, 2, -2, 400, -400, 401, math.MinInt, math.MinInt + 1, math.MaxInt, 1 << 40}
	number := func() int { return odd[d.IntN(len(odd))] }
	list := func() []int {
		var l []int
		for range d.IntN(4) {
			l = append(l, number())
		}
		return l
	}
	for range 20000 {
		f := of(number(), list(), list(), list())
		s, code := solve.New(f)
		if code != f.Check() || (s == nil) != (code != api.OK) {
			t.Fatal(f, s, code)
		}
		for range 3 {
			assume, budget, ahead := list(), number(), s.Proof()
			r, e := s.Solve(assume, budget)
			switch {
			case s == nil && e != api.Nil, s != nil && e != cnf.CheckClause(assume, f.N), e != api.OK && !plain(r):
				t.Fatal(f, assume, budget, r, e)
			}
			if e == api.OK && f.N < few {
				judge{t, f, s}.said(assume, budget, ahead, r, e)
			}
		}
		solve.Bound(number())
	}
	// One that nobody made is one of no variable.
	var bare solve.Solver
	if r, e := bare.Solve(nil, 0); e != api.OK || r.Status != solve.Sat || len(r.Model) != 0 {
		t.Error(r, e)
	}
	if r, e := bare.Solve(c(1), 0); e != api.Range || len(bare.Proof()) != 0 {
		t.Error(r, e)
	}
}
