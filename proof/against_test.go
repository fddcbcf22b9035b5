package proof_test

import (
	"math"
	"math/rand/v2"
	"slices"
	"sort"
	"testing"

	"chandler/api"
	"chandler/cnf"
	"chandler/proof"
	"chandler/solve"
)

// models: all models of so many variables.
func models(n int) [][]bool {
	l := [][]bool{nil}
	for range n {
		var longer [][]bool
		for _, m := range l {
			longer = append(longer, append(slices.Clone(m), false), append(slices.Clone(m), true))
		}
		l = longer
	}
	return l
}

// holds: has a clause a literal that is true? (The model has all variables.)
func holds(c []int, model []bool) bool {
	for _, lit := range c {
		if lit > 0 && model[lit-1] || lit < 0 && !model[-lit-1] {
			return true
		}
	}
	return false
}

// follows: do clauses' models have others, too?
func follows(n int, from [][]int, others ...[]int) bool {
	for _, m := range models(n) {
		is, are := true, true
		for _, c := range from {
			is = is && holds(c, m)
		}
		for _, c := range others {
			are = are && holds(c, m)
		}
		if is && !are {
			return false
		}
	}
	return true
}

// set: literals by themselves.
func set(l []int) map[int]int {
	m := map[int]int{}
	for _, lit := range l {
		m[lit]++
	}
	return m
}

// listed: a set's literals in order, told by twice the variable.
func listed(m map[int]int) []int {
	var l []int
	for lit := range m {
		l = append(l, lit)
	}
	key := func(lit int) int {
		if lit < 0 {
			return -2 * lit
		}
		return 2*lit + 1
	}
	sort.Slice(l, func(i, j int) bool { return key(l[i]) < key(l[j]) })
	return l
}

// resolved: what follows from two sets on a variable, which either may have.
func resolved(a, b map[int]int, v int) (map[int]int, bool) {
	for range 2 {
		both := map[int]int{}
		for lit := range a {
			if lit != v {
				both[lit]++
			}
		}
		for lit := range b {
			if lit != -v {
				both[lit]++
			}
		}
		plain := v > 0 && a[v] > 0 && b[-v] > 0
		for lit := range both {
			plain = plain && both[-lit] == 0
		}
		if plain {
			return both, true
		}
		a, b = b, a
	}
	return nil, false
}

// why: why a step isn't right behind clauses, by sets.
func why(ahead [][]int, s solve.Step) api.Errno {
	if len(s.From) == 0 || len(s.From) != len(s.On)+1 {
		return api.Wrong
	}
	var so map[int]int
	for i, number := range s.From {
		if number <= 0 || number > len(ahead) {
			return api.Missing
		}
		next := set(ahead[number-1])
		if i > 0 {
			both, ok := resolved(so, next, s.On[i-1])
			if !ok {
				return api.Wrong
			}
			next = both
		}
		so = next
	}
	if !slices.Equal(listed(so), s.Clause) {
		return api.Wrong
	}
	return api.OK
}

// checked: Check of a formula that may be, by sets.
func checked(f cnf.Formula, steps []solve.Step) (int, api.Errno) {
	ahead := slices.Clone(f.Clauses)
	for i, s := range steps {
		if code := why(ahead, s); code != api.OK {
			return i, code
		}
		ahead = append(ahead, s.Clause)
	}
	return len(steps), api.OK
}

// wanted: what a number's clause needs, itself too.
func wanted(many int, steps []solve.Step, number int, into map[int]int) {
	if into[number] > 0 {
		return
	}
	into[number]++
	if number <= many {
		return
	}
	for _, x := range steps[number-many-1].From {
		if x > 0 && x < number {
			wanted(many, steps, x, into)
		}
	}
}

// trimmed: Trim, by what each clause needs.
func trimmed(many int, steps []solve.Step) ([]solve.Step, []int) {
	need := map[int]int{}
	wanted(many, steps, many+len(steps), need)
	var numbers, clauses []int
	for x := range need {
		numbers = append(numbers, x)
	}
	sort.Ints(numbers)
	var left []solve.Step
	for _, x := range numbers {
		if x <= many {
			clauses = append(clauses, x)
			continue
		}
		old := steps[x-many-1]
		var from []int
		for _, y := range old.From {
			at := sort.SearchInts(numbers, y)
			if y >= x || at == len(numbers) || numbers[at] != y {
				at = -1
			}
			from = append(from, at+1)
		}
		left = append(left, step(old.Clause, from, old.On))
	}
	return left, clauses
}

// clauseOf: a number's clause.
func clauseOf(f cnf.Formula, steps []solve.Step, number int) []int {
	if number <= len(f.Clauses) {
		return f.Clauses[number-1]
	}
	return steps[number-len(f.Clauses)-1].Clause
}

// left: is what Trim and Flat leave of right steps right?
func left(t *testing.T, f cnf.Formula, steps []solve.Step) {
	t.Helper()
	last := steps[len(steps)-1].Clause
	less, numbers := proof.Trim(len(f.Clauses), steps)
	part := of(f.N)
	for i, x := range numbers {
		if x < 1 || x > len(f.Clauses) || i > 0 && x <= numbers[i-1] {
			t.Fatal("numbers", f, steps, numbers)
		}
		part.Clauses = append(part.Clauses, f.Clauses[x-1])
	}
	if right, code := checked(part, less); code != api.OK || right == 0 || right > len(steps) || !slices.Equal(less[right-1].Clause, last) {
		t.Fatal("trimmed", f, steps, less, right, code)
	}
	for i := range less {
		need := map[int]int{}
		wanted(len(numbers), less, len(numbers)+len(less), need)
		if need[len(numbers)+i+1] == 0 || len(need) != len(numbers)+len(less) {
			t.Fatal("not needed", f, steps, less)
		}
	}
	flat, number := proof.Flat(f, steps)
	if right, code := checked(f, flat); code != api.OK || right != len(flat) {
		t.Fatal("flat", f, steps, flat, right, code)
	}
	rows := 0
	for _, s := range steps {
		rows += len(s.On)
	}
	if len(flat) != rows || number < 1 || number > len(f.Clauses)+rows || !slices.Equal(cnf.Norm(clauseOf(f, flat, number)), last) {
		t.Fatal("flat", f, steps, flat, number)
	}
	for _, s := range flat {
		if len(s.From) != 2 {
			t.Fatal("not from two", s)
		}
	}
}

// clauses: all clauses over so many variables in order, each literal once.
func clauses(n int) [][]int {
	l := [][]int{nil}
	for v := 1; v <= n; v++ {
		var longer [][]int
		for _, c := range l {
			for _, more := range [][]int{nil, {-v}, {v}, {-v, v}} {
				longer = append(longer, append(slices.Clone(c), more...))
			}
		}
		l = longer
	}
	return l
}

// TestPairsAll: all steps from two clauses over two variables, with each clause as what comes out.
func TestPairsAll(t *testing.T) {
	l := clauses(2)
	for _, a := range l {
		for _, b := range l {
			f, right := of(2, a, b), 0
			for _, comes := range l {
				for v := -1; v <= 3; v++ {
					s := list(step(comes, c(1, 2), c(v)))
					got, code := proof.Check(f, s)
					if n, want := checked(f, s); got != n || code != want {
						t.Fatal(f, s, got, code)
					}
					if code == api.OK {
						right++
						if !follows(2, f.Clauses, comes) {
							t.Fatal("it doesn't follow", f, s)
						}
						left(t, f, s)
					}
				}
			}
			if right > 2 {
				t.Fatal(f, right)
			}
		}
	}
}

// dice throw clauses, formulas, steps.
type dice struct{ *rand.Rand }

func (d dice) clause(n, from, to int) []int {
	var c []int
	for range from + d.IntN(to-from+1) {
		c = append(c, (1+d.IntN(n))*(1-2*d.IntN(2)))
	}
	return c
}

func (d dice) formula(n, many int) cnf.Formula {
	f := of(n)
	for range many {
		f.Clauses = append(f.Clauses, d.clause(n, 1, 3))
	}
	return f
}

// right: a right step behind clauses, from as many as can be found, so many at most.
func (d dice) right(n int, ahead [][]int, most int) solve.Step {
	at := d.IntN(len(ahead))
	s, so := step(nil, c(at+1), nil), set(ahead[at])
	for range 8 * most {
		if len(s.From) == most {
			break
		}
		next, v := d.IntN(len(ahead)), 1+d.IntN(n)
		if both, ok := resolved(so, set(ahead[next]), v); ok {
			so = both
			s.From, s.On = append(s.From, next+1), append(s.On, v)
		}
	}
	s.Clause = listed(so)
	return s
}

// steps: right ones behind a formula.
func (d dice) steps(f cnf.Formula, many, most int) []solve.Step {
	ahead := slices.Clone(f.Clauses)
	var l []solve.Step
	for range many {
		s := d.right(f.N, ahead, 1+d.IntN(most))
		l, ahead = append(l, s), append(ahead, s.Clause)
	}
	return l
}

// spoilt: a step that has something else, or more, or less.
func (d dice) spoilt(s solve.Step, numbers, n int) solve.Step {
	out := step(slices.Clone(s.Clause), slices.Clone(s.From), slices.Clone(s.On))
	change := func(l []int, by int) []int {
		switch at := d.IntN(len(l) + 1); {
		case at == len(l):
			return append(l, by)
		case d.IntN(3) == 0:
			return slices.Delete(l, at, at+1)
		default:
			l[at] = by
		}
		return l
	}
	switch d.IntN(3) {
	case 0:
		out.Clause = change(out.Clause, (1+d.IntN(n))*(1-2*d.IntN(2)))
	case 1:
		out.From = change(out.From, d.IntN(numbers+3)-1)
	default:
		out.On = change(out.On, d.IntN(n+3)-1)
	}
	return out
}

// TestAny: right steps, and steps of which one is spoilt, against another way of looking.
func TestAny(t *testing.T) {
	d := dice{rand.New(rand.NewPCG(15, 1))}
	var said [10]int
	for range 6000 {
		n := 2 + d.IntN(4)
		f := d.formula(n, 1+d.IntN(9))
		steps := d.steps(f, 1+d.IntN(6), 4)
		if got, code := proof.Check(f, steps); got != len(steps) || code != api.OK {
			t.Fatal(f, steps, got, code)
		}
		left(t, f, steps)
		var comes [][]int
		for _, s := range steps {
			comes = append(comes, s.Clause)
		}
		if !follows(n, f.Clauses, comes...) {
			t.Fatal("it doesn't follow", f, steps)
		}
		at := d.IntN(len(steps))
		steps[at] = d.spoilt(steps[at], len(f.Clauses)+len(steps), n)
		want, why := checked(f, steps)
		said[why]++
		if got, code := proof.Check(f, steps); got != want || code != why {
			t.Fatal(f, steps, got, code, want, why)
		}
		if why == api.OK {
			left(t, f, steps)
		} else if flat, number := proof.Flat(f, steps); len(flat) != 0 || number != 0 {
			t.Fatal("they aren't all right", f, steps, flat, number)
		}
	}
	if said[api.OK] < 100 || said[api.Missing] < 100 || said[api.Wrong] < 1000 {
		t.Error("the dice say too little", said)
	}
}

// TestTrimAny: steps with any numbers, against another way of counting.
func TestTrimAny(t *testing.T) {
	d := dice{rand.New(rand.NewPCG(15, 2))}
	less := 0
	for range 20000 {
		many := d.IntN(9)
		var steps []solve.Step
		for range 1 + d.IntN(9) {
			var from []int
			for range d.IntN(4) {
				from = append(from, d.IntN(many+len(steps)+4)-1)
			}
			steps = append(steps, step(d.clause(3, 0, 3), from, d.clause(3, 0, 3)))
		}
		got, clauses := proof.Trim(many, steps)
		want, wantClauses := trimmed(many, steps)
		if !same(got, want) || !slices.Equal(clauses, wantClauses) {
			t.Fatal(many, steps, got, clauses, want, wantClauses)
		}
		if len(got) < len(steps) {
			less++
		}
	}
	if less < 1000 {
		t.Error("the dice say too little", less)
	}
}

// holes: each of some things is in one of some holes, no two in the same.
func holes(things, holes int) cnf.Formula {
	f := of(things * holes)
	in := func(thing, hole int) int { return thing*holes + hole + 1 }
	for a := range things {
		var somewhere []int
		for hole := range holes {
			somewhere = append(somewhere, in(a, hole))
			for b := range a {
				f.Clauses = append(f.Clauses, c(-in(a, hole), -in(b, hole)))
			}
		}
		f.Clauses = append(f.Clauses, somewhere)
	}
	return f
}

// TestSolved: the steps of solvers.
func TestSolved(t *testing.T) {
	d := dice{rand.New(rand.NewPCG(15, 3))}
	var l []cnf.Formula
	for n := range 6 {
		l = append(l, holes(n+1, n))
	}
	for range 300 {
		n := 3 + d.IntN(12)
		f := of(n)
		for range 5 * n {
			f.Clauses = append(f.Clauses, d.clause(n, 1+d.IntN(3), 3))
		}
		l = append(l, f)
	}
	for range 9 {
		n := 30 + d.IntN(30)
		f := of(n)
		for range 6 * n {
			f.Clauses = append(f.Clauses, d.clause(n, 3, 3))
		}
		l = append(l, f)
	}
	refuted := 0
	for _, f := range l {
		s, code := solve.New(f)
		if code != api.OK {
			t.Fatal(f, code)
		}
		for range 3 {
			var assume []int
			if f.N > 0 {
				assume = d.clause(f.N, 0, 3)
			}
			s.Solve(assume, api.MaxBudget)
			// What stands ahead of the last one are right steps, too.
			if steps := s.Proof(); len(steps) > 0 {
				whole(t, f, steps)
				whole(t, f, steps[:1+d.IntN(len(steps))])
			}
		}
		if r, _ := s.Solve(nil, api.MaxBudget); r.Status == solve.Unsat {
			steps := s.Proof()
			whole(t, f, steps)
			refuted++
			if len(steps[len(steps)-1].Clause) != 0 {
				t.Fatal(f, steps)
			}
		}
	}
	if refuted < 100 {
		t.Error("the dice say too little", refuted)
	}
}

// whole: a solver's steps are right, and so is what is left of them.
func whole(t *testing.T, f cnf.Formula, steps []solve.Step) {
	t.Helper()
	if got, code := proof.Check(f, steps); got != len(steps) || code != api.OK {
		t.Fatal(f, steps, got, code)
	}
	if len(steps) > 300 {
		steps = steps[:300]
	}
	left(t, f, steps)
}

// roomy: a list with spare room, in which something stands.
func roomy(l ...int) []int {
	out := append(slices.Clone(l), 77, 78, 79)
	return out[:len(l)]
}

// spoil: other numbers, in the spare room, too.
func spoil(l []int) {
	for i := range l[:cap(l)] {
		l[:cap(l)][i] = 55
	}
}

// given: a formula and right steps, all in lists with spare room; and all these lists.
func given() (cnf.Formula, []solve.Step, [][]int) {
	l := [][]int{roomy(2, 1, 2), roomy(-1), roomy(-2), roomy(3, -3), roomy(1, 2), roomy(1), roomy(2), roomy(5, 2), roomy(1), roomy(), roomy(6, 3, 5), roomy(2, 2)}
	f := of(3, append(make([][]int, 0, 9), l[:4]...)...)
	steps := append(make([]solve.Step, 0, 9), step(l[4], l[5], nil), step(l[6], l[7], l[8]), step(l[9], c(6, 3), c(2)))
	return f, steps, l
}

// TestNothingChanged: what is handed in is as it was, its spare room too, and shares nothing with what is answered.
func TestNothingChanged(t *testing.T) {
	f, steps, l := given()
	_, _, kept := given()
	if got, code := proof.Check(f, steps); got != 3 || code != api.OK {
		t.Fatal(got, code)
	}
	trim, numbers := proof.Trim(4, steps)
	flat, _ := proof.Flat(f, steps)
	if len(trim) != 3 || len(flat) != 2 {
		t.Fatal(trim, flat)
	}
	spoil(numbers)
	for _, x := range append(trim[:cap(trim)], flat[:cap(flat)]...) {
		spoil(x.Clause)
		spoil(x.From)
		spoil(x.On)
	}
	for i, x := range l {
		if !slices.Equal(x[:len(x)+3], kept[i][:len(x)+3]) {
			t.Error("changed", x[:len(x)+3])
		}
	}
	if steps[:4][3].From != nil || f.Clauses[:5][4] != nil || len(steps) != 3 || len(f.Clauses) != 4 {
		t.Error("changed", steps, f)
	}
	again, more := proof.Trim(4, steps)
	if want, wantMore := trimmed(4, steps); !same(again, want) || !slices.Equal(more, wantMore) {
		t.Error(again, more)
	}
}

// TestApart: no two lists of an answer share anything.
func TestApart(t *testing.T) {
	f := of(3, c(1, 2), c(-1), c(-2))
	one := c(1, 2)
	steps := list(step(c(2), one, c(1)), step(c(2), one, c(1)), step(nil, c(5, 3), c(2)), step(c(2), c(4), nil), step(nil, c(3, 7), c(2)))
	flat, _ := proof.Flat(f, steps)
	all, numbers := proof.Trim(3, steps)
	if len(flat) != 4 || len(all) != 3 {
		t.Fatal(flat, all)
	}
	apart(t, nil, flat)
	apart(t, numbers, all)
}

// apart: each list is filled by a number of its own, and still is at last.
func apart(t *testing.T, l []int, steps []solve.Step) {
	t.Helper()
	lists := [][]int{l}
	for _, s := range steps {
		lists = append(lists, s.Clause, s.From, s.On)
	}
	for i, x := range lists {
		for j := range x[:cap(x)] {
			x[:cap(x)][j] = i
		}
	}
	for i, x := range lists {
		for _, y := range x[:cap(x)] {
			if y != i {
				t.Fatal("shared", i, y)
			}
		}
	}
}

// TestAnything: at all arguments every call ends, and none panics.
func TestAnything(t *testing.T) {
	d := dice{rand.New(rand.NewPCG(15, 4))}
	odd := []int{0, 1, -1, 2, -2, 3, 1, 2, 3, 4, 5, 400, -400, math.MinInt, math.MinInt + 1, math.MaxInt, math.MaxInt - 1, 1 << 40}
	number := func() int { return odd[d.IntN(len(odd))] }
	some := func() []int {
		var l []int
		for range d.IntN(4) {
			l = append(l, number())
		}
		return l
	}
	for range 30000 {
		f := of(number(), some(), some(), some())
		var steps []solve.Step
		for range d.IntN(4) {
			steps = append(steps, step(some(), some(), some()))
		}
		got, code := proof.Check(f, steps)
		want, why := checked(f, steps)
		if bad := f.Check(); bad != api.OK {
			want, why = 0, bad
		}
		if got != want || code != why {
			t.Fatal(f, steps, got, code, want, why)
		}
		if flat, last := proof.Flat(f, steps); (code != api.OK || len(steps) == 0) && (len(flat) != 0 || last != 0) {
			t.Fatal(f, steps, flat, last)
		}
		many := number()
		trim, clauses := proof.Trim(many, steps)
		if (many < 0 || len(steps) == 0) != (len(trim) == 0) || len(trim) == 0 && len(clauses) != 0 {
			t.Fatal(many, steps, trim, clauses)
		}
	}
}
