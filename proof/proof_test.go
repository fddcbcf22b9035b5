package proof_test

import (
	"math"
	"slices"
	"testing"

	"chandler/api"
	"chandler/cnf"
	"chandler/proof"
	"chandler/solve"
)

// of: a formula with these clauses.
func of(n int, clauses ...[]int) cnf.Formula { return cnf.Formula{N: n, Clauses: clauses} }

// c: a clause, or numbers.
func c(l ...int) []int { return l }

// step: a clause, and how it follows.
func step(clause, from, on []int) solve.Step {
	return solve.Step{Clause: clause, From: from, On: on}
}

// list: steps.
func list(l ...solve.Step) []solve.Step { return l }

// many: so many clauses, each like that.
func many(n int, like []int) [][]int { return slices.Repeat([][]int{like}, n) }

// same: are steps the same, each by each?
func same(a, b []solve.Step) bool {
	return slices.EqualFunc(a, b, func(x, y solve.Step) bool {
		return slices.Equal(x.Clause, y.Clause) && slices.Equal(x.From, y.From) && slices.Equal(x.On, y.On)
	})
}

// small is a formula without a model; (3, -4) and (-3, 3) say nothing of that.
func small() cnf.Formula { return of(4, c(1, 2), c(-1), c(-2), c(3, -4), c(-3, 3), c(2, 1, 2)) }

// TestCheckStep: one step behind a formula.
func TestCheckStep(t *testing.T) {
	for _, x := range []struct {
		step solve.Step
		want api.Errno
	}{
		{step(nil, c(1, 2, 3), c(1, 2)), api.OK},
		{step(c(), c(1, 3, 2), c(2, 1)), api.OK},
		{step(nil, c(2, 1, 3), c(1, 2)), api.OK},
		{step(c(2), c(1, 2), c(1)), api.OK},
		{step(c(2), c(2, 1), c(1)), api.OK},
		{step(c(1), c(1, 3), c(2)), api.OK},
		{step(c(2), c(6, 2), c(1)), api.OK},
		{step(nil, c(2, 6, 3), c(1, 2)), api.OK},
		// Of one number alone.
		{step(c(1, 2), c(1), nil), api.OK},
		{step(c(-1), c(2), c()), api.OK},
		{step(c(3, -4), c(4), nil), api.OK},
		{step(c(-3, 3), c(5), nil), api.OK},
		{step(c(1, 2), c(6), nil), api.OK},
		{step(c(2, 1, 2), c(6), nil), api.Wrong},
		{step(c(2, 1), c(1), nil), api.Wrong},
		{step(c(1, 1, 2), c(1), nil), api.Wrong},
		{step(c(1), c(1), nil), api.Wrong},
		{step(c(1, 2, 3), c(1), nil), api.Wrong},
		{step(nil, c(1), nil), api.Wrong},
		{step(c(-2), c(2), nil), api.Wrong},
		// From is empty, or On hasn't one less: ahead of all else.
		{step(nil, nil, nil), api.Wrong},
		{step(nil, c(), c(1)), api.Wrong},
		{step(c(1, 2), c(1), c(1)), api.Wrong},
		{step(c(2), c(1, 2), nil), api.Wrong},
		{step(c(2), c(1, 2), c(1, 2)), api.Wrong},
		{step(nil, c(1, 2, 3), c(1)), api.Wrong},
		{step(nil, c(1, 2, 3), c(1, 2, 2)), api.Wrong},
		{step(nil, c(0), c(1)), api.Wrong},
		{step(nil, c(9, 9), nil), api.Wrong},
		// There is no such clause.
		{step(c(1, 2), c(0), nil), api.Missing},
		{step(c(1, 2), c(-1), nil), api.Missing},
		{step(c(1, 2), c(7), nil), api.Missing},
		{step(c(1, 2), c(8), nil), api.Missing},
		{step(nil, c(math.MinInt), nil), api.Missing},
		{step(nil, c(math.MaxInt), nil), api.Missing},
		{step(c(2), c(1, 0), c(1)), api.Missing},
		{step(c(2), c(1, -2), c(1)), api.Missing},
		{step(c(2), c(1, 7), c(1)), api.Missing},
		{step(c(2), c(7, 2), c(1)), api.Missing},
		{step(nil, c(1, 2, 7), c(1, 2)), api.Missing},
		{step(nil, c(1, 7, 3), c(1, 2)), api.Missing},
		// It can't be resolved.
		{step(c(2), c(1, 2), c(2)), api.Wrong},
		{step(c(2), c(1, 2), c(0)), api.Wrong},
		{step(c(2), c(1, 2), c(-1)), api.Wrong},
		{step(c(2), c(2, 1), c(-1)), api.Wrong},
		{step(c(2), c(1, 2), c(5)), api.Wrong},
		{step(c(2), c(1, 2), c(math.MinInt)), api.Wrong},
		{step(c(2), c(1, 2), c(math.MaxInt)), api.Wrong},
		{step(c(1, 2), c(1, 1), c(1)), api.Wrong},
		{step(c(1, 2), c(1, 6), c(1)), api.Wrong},
		{step(nil, c(1, 2, 3), c(1, 1)), api.Wrong},
		{step(nil, c(1, 2, 2), c(1, 1)), api.Wrong},
		{step(nil, c(1, 3, 3), c(2, 2)), api.Wrong},
		{step(c(3, -4), c(4, 5), c(3)), api.OK},
		{step(c(-3, 3), c(5, 5), c(3)), api.Wrong},
		// Of two flaws that of the number that stands first; of one number that it isn't there.
		{step(nil, c(1, 2, 7), c(2, 2)), api.Wrong},
		{step(nil, c(1, 7, 2), c(2, 2)), api.Missing},
		{step(nil, c(7, 1, 2), c(2, 2)), api.Missing},
		{step(nil, c(1, 7), c(9)), api.Missing},
		{step(c(9), c(1, 7), c(1)), api.Missing},
		{step(c(9), c(1, 2, 9), c(1, 1)), api.Missing},
		// Another clause than what comes out.
		{step(nil, c(1, 2), c(1)), api.Wrong},
		{step(c(1), c(1, 2), c(1)), api.Wrong},
		{step(c(-2), c(1, 2), c(1)), api.Wrong},
		{step(c(2, 2), c(1, 2), c(1)), api.Wrong},
		{step(c(2, 3), c(1, 2), c(1)), api.Wrong},
		{step(c(1), c(1, 2, 3), c(1, 2)), api.Wrong},
		{step(c(0), c(1, 2, 3), c(1, 2)), api.Wrong},
	} {
		got, code := proof.Check(small(), list(x.step))
		want := 0
		if x.want == api.OK {
			want = 1
		}
		if got != want || code != x.want {
			t.Error(x.step, got, code)
		}
	}
}

// TestCheckTwice: contraries within a clause.
func TestCheckTwice(t *testing.T) {
	f := of(3, c(1, -1, 2), c(-1), c(1), c(1, -1, 3), c(2, -1))
	for _, x := range []struct {
		step solve.Step
		want api.Errno
	}{
		{step(c(-1, 2), c(1, 2), c(1)), api.OK},
		{step(c(-1, 2), c(2, 1), c(1)), api.OK},
		{step(c(1, 2), c(1, 3), c(1)), api.OK},
		{step(c(1, 2), c(3, 1), c(1)), api.OK},
		{step(c(2), c(1, 2, 3), c(1, 1)), api.OK},
		{step(c(-1, 2), c(1, 5), c(1)), api.OK},
		{step(c(2), c(1, 2), c(1)), api.Wrong},
		{step(c(1, -1, 2, 3), c(1, 4), c(1)), api.Wrong},
		{step(c(-1, 1, 2, 3), c(4, 1), c(1)), api.Wrong},
		{step(c(2, 3), c(1, 4), c(1)), api.Wrong},
		{step(c(-1, 1, 2), c(1), nil), api.OK},
		{step(c(1, -1, 2), c(1), nil), api.Wrong},
		{step(c(2), c(1), nil), api.Wrong},
	} {
		if got, code := proof.Check(f, list(x.step)); code != x.want || (got == 1) != (code == api.OK) {
			t.Error(x.step, got, code)
		}
	}
}

// TestCheckMany: steps behind steps, the first one that isn't right, and why.
func TestCheckMany(t *testing.T) {
	two := step(c(2), c(1, 2), c(1))
	none := step(nil, c(7, 3), c(2))
	for _, x := range []struct {
		steps []solve.Step
		want  int
		code  api.Errno
	}{
		{nil, 0, api.OK},
		{list(), 0, api.OK},
		{list(two), 1, api.OK},
		{list(two, none), 2, api.OK},
		{list(two, none, two, none), 4, api.OK},
		{list(two, step(c(2), c(7), nil), step(nil, c(3, 8), c(2)), step(nil, c(9), nil)), 4, api.OK},
		{list(two, step(c(2), c(8), nil)), 1, api.Missing},
		{list(step(c(2), c(7), nil), two), 0, api.Missing},
		{list(none, two), 0, api.Missing},
		{list(two, step(c(2), c(9), nil), two), 1, api.Missing},
		{list(two, none, step(nil, c(8), nil), step(c(1), c(8), nil)), 3, api.Wrong},
		{list(two, none, step(nil, c(8, 8), c(1)), step(nil, nil, nil)), 2, api.Wrong},
		{list(two, two, step(nil, nil, nil), step(c(2), c(99), nil)), 2, api.Wrong},
		{list(two, two, step(c(2), c(99), nil), step(nil, nil, nil)), 2, api.Missing},
		// Behind one that isn't right nothing is told.
		{list(step(c(1), c(1), nil), two, none), 0, api.Wrong},
	} {
		if got, code := proof.Check(small(), x.steps); got != x.want || code != x.code {
			t.Error(x.steps, got, code)
		}
	}
}

// TestCheckFormula: ahead of all steps, the formula.
func TestCheckFormula(t *testing.T) {
	right := step(c(1), c(1), nil)
	for _, x := range []struct {
		f     cnf.Formula
		steps []solve.Step
		want  int
		code  api.Errno
	}{
		{of(0), nil, 0, api.OK},
		{of(0, nil), list(step(nil, c(1), nil)), 1, api.OK},
		{of(0), list(step(nil, c(1), nil)), 0, api.Missing},
		{of(0), list(step(nil, nil, nil)), 0, api.Wrong},
		{of(api.MaxVars, many(api.MaxClauses, c(1))...), list(right, step(c(1), c(api.MaxClauses+1), nil)), 2, api.OK},
		{of(api.MaxVars, c(-api.MaxVars), c(api.MaxVars)), list(step(nil, c(1, 2), c(api.MaxVars))), 1, api.OK},
		{of(-1), nil, 0, api.Range},
		{of(-1, c(1)), list(right), 0, api.Range},
		{of(api.MaxVars+1, c(1)), list(right), 0, api.Range},
		{of(1, many(api.MaxClauses+1, c(1))...), list(right), 0, api.Bound},
		{of(1, many(api.MaxClauses+1, c(1))...), nil, 0, api.Bound},
		{of(1, c(1), c(2)), list(right), 0, api.Range},
		{of(1, c(1), c(0)), nil, 0, api.Range},
		{of(1, c(0)), list(step(nil, nil, nil)), 0, api.Range},
		{of(-1, c(1)), list(step(c(1), c(9), nil)), 0, api.Range},
	} {
		if got, code := proof.Check(x.f, x.steps); got != x.want || code != x.code {
			t.Error(x.f.N, len(x.f.Clauses), x.steps, got, code)
		}
	}
}

func TestTrim(t *testing.T) {
	for _, x := range []struct {
		many    int
		steps   []solve.Step
		want    []solve.Step
		clauses []int
	}{
		// Nothing.
		{0, nil, nil, nil},
		{3, list(), nil, nil},
		{-1, nil, nil, nil},
		{-1, list(step(c(1), c(1), nil)), nil, nil},
		{math.MinInt, list(step(c(1), c(1), nil)), nil, nil},
		// One step.
		{3, list(step(nil, c(1, 2, 3), c(1, 2))), list(step(nil, c(1, 2, 3), c(1, 2))), c(1, 2, 3)},
		{9, list(step(nil, c(9, 2, 5), c(1, 2))), list(step(nil, c(3, 1, 2), c(1, 2))), c(2, 5, 9)},
		{9, list(step(c(7), c(9), nil)), list(step(c(7), c(1), nil)), c(9)},
		{9, list(step(c(7), c(4, 4, 2, 4), c(1, 2, 3))), list(step(c(7), c(2, 2, 1, 2), c(1, 2, 3))), c(2, 4)},
		{9, list(step(c(7), nil, nil)), list(step(c(7), nil, nil)), nil},
		{0, list(step(nil, nil, c(5))), list(step(nil, nil, c(5))), nil},
		// The last one needs some of those ahead, or none.
		{3, list(step(c(1), c(1), nil), step(c(2), c(2), nil)), list(step(c(2), c(1), nil)), c(2)},
		{3, list(step(c(1), c(1), nil), step(c(2), c(4), nil)), list(step(c(1), c(1), nil), step(c(2), c(2), nil)), c(1)},
		{
			5, list(step(c(1), c(3), nil), step(c(2), c(1), nil), step(c(3), c(6, 5), c(8)), step(c(4), c(8, 2, 7), c(8, 9)), step(c(5), c(8, 5), c(9))),
			list(step(c(1), c(1), nil), step(c(3), c(3, 2), c(8)), step(c(5), c(4, 2), c(9))), c(3, 5),
		},
		{
			2, list(step(c(1), c(2), nil), step(c(2), c(3), nil), step(c(3), c(4), nil), step(c(4), c(5, 4, 3), c(1, 1))),
			list(step(c(1), c(1), nil), step(c(2), c(2), nil), step(c(3), c(3), nil), step(c(4), c(4, 3, 2), c(1, 1))), c(2),
		},
		// What is needed by what isn't needed isn't.
		{4, list(step(nil, c(1), nil), step(nil, c(5, 2), c(1)), step(nil, c(6, 3), c(1)), step(nil, c(4), nil)), list(step(nil, c(1), nil)), c(4)},
		{0, list(step(nil, nil, nil), step(nil, c(1), nil), step(nil, c(1), nil)), list(step(nil, nil, nil), step(nil, c(1), nil)), nil},
		// Numbers that are of nothing ahead.
		{3, list(step(nil, c(0, 1, -1, 3), nil)), list(step(nil, c(0, 1, 0, 2), nil)), c(1, 3)},
		{3, list(step(nil, c(4, 5, 3), nil)), list(step(nil, c(0, 0, 1), nil)), c(3)},
		{3, list(step(nil, c(5, 2), nil), step(nil, c(5, 4, 6, 9), nil)), list(step(nil, c(0, 1), nil), step(nil, c(0, 2, 0, 0), nil)), c(2)},
		{3, list(step(nil, c(5), nil), step(nil, c(1), nil)), list(step(nil, c(1), nil)), c(1)},
		{3, list(step(nil, c(5), nil), step(nil, c(4), nil), step(nil, c(5, 4), nil)), list(step(nil, c(0), nil), step(nil, c(1), nil), step(nil, c(2, 1), nil)), nil},
		{0, list(step(nil, c(math.MinInt, math.MaxInt, 0, 1), nil)), list(step(nil, c(0, 0, 0, 0), nil)), nil},
		{1, list(step(nil, nil, nil), step(nil, c(math.MinInt, math.MaxInt, 2), nil)), list(step(nil, nil, nil), step(nil, c(0, 0, 1), nil)), nil},
		// As many clauses as there are numbers.
		{math.MaxInt, list(step(nil, c(math.MaxInt, 1), c(1))), list(step(nil, c(2, 1), c(1))), c(1, math.MaxInt)},
		{math.MaxInt, list(step(nil, c(1), nil), step(nil, c(math.MaxInt, math.MinInt), c(1))), list(step(nil, c(1, 0), c(1))), c(math.MaxInt)},
		{math.MaxInt - 1, list(step(c(8), c(5), nil), step(nil, c(math.MaxInt, 7), c(1))), list(step(c(8), c(1), nil), step(nil, c(3, 2), c(1))), c(5, 7)},
		{
			math.MaxInt - 1, list(step(c(8), c(5), nil), step(nil, c(math.MaxInt), nil), step(nil, c(math.MaxInt), nil), step(nil, c(7, math.MaxInt), c(1))),
			list(step(c(8), c(1), nil), step(nil, c(2, 3), c(1))), c(5, 7),
		},
		{math.MaxInt - 1, list(step(c(8), c(math.MaxInt, 3), nil)), list(step(c(8), c(0, 1), nil)), c(3)},
		// Clauses and variables are as they were, whatever they be.
		{2, list(step(c(0, 5, -5, math.MinInt), c(2), c(0, -3, 4))), list(step(c(0, 5, -5, math.MinInt), c(1), c(0, -3, 4))), c(2)},
	} {
		got, clauses := proof.Trim(x.many, x.steps)
		if !same(got, x.want) || !slices.Equal(clauses, x.clauses) {
			t.Error(x.many, x.steps, got, clauses)
		}
	}
}

func TestFlat(t *testing.T) {
	example := of(2, c(1, 2), c(-1), c(-2))
	row := of(5, c(1), c(-1, 2), c(-2, 3), c(-3, 4), c(-4, 5), c(4, -5, 4))
	for _, x := range []struct {
		f     cnf.Formula
		steps []solve.Step
		want  []solve.Step
		last  int
	}{
		{example, list(step(nil, c(1, 2, 3), c(1, 2))), list(step(c(2), c(1, 2), c(1)), step(nil, c(4, 3), c(2))), 5},
		{example, list(step(nil, c(3, 1, 2), c(2, 1))), list(step(c(1), c(3, 1), c(2)), step(nil, c(4, 2), c(1))), 5},
		{example, list(step(c(2), c(2, 1), c(1))), list(step(c(2), c(2, 1), c(1))), 4},
		{example, list(step(c(2), c(1, 2), c(1)), step(nil, c(3, 4), c(2))), list(step(c(2), c(1, 2), c(1)), step(nil, c(3, 4), c(2))), 5},
		// All of them, needed or not.
		{example, list(step(c(1), c(1, 3), c(2)), step(c(2), c(1, 2), c(1))), list(step(c(1), c(1, 3), c(2)), step(c(2), c(1, 2), c(1))), 5},
		{example, list(step(nil, c(1, 2, 3), c(1, 2)), step(c(1), c(1, 3), c(2))), list(step(c(2), c(1, 2), c(1)), step(nil, c(4, 3), c(2)), step(c(1), c(1, 3), c(2))), 6},
		// Of one number alone: what it was.
		{example, list(step(c(-2), c(3), nil)), nil, 3},
		{example, list(step(c(-2), c(3), nil), step(c(-1), c(2), nil)), nil, 2},
		{example, list(step(c(-2), c(3), nil), step(c(-2), c(4), nil), step(c(-2), c(5), nil)), nil, 3},
		{example, list(step(c(-2), c(3), nil), step(c(1), c(4, 1), c(2))), list(step(c(1), c(3, 1), c(2))), 4},
		{example, list(step(c(1), c(3, 1), c(2)), step(c(1), c(4), nil)), list(step(c(1), c(3, 1), c(2))), 4},
		{example, list(step(c(1), c(3, 1), c(2)), step(c(1), c(4), nil), step(nil, c(2, 5), c(1))), list(step(c(1), c(3, 1), c(2)), step(nil, c(2, 4), c(1))), 5},
		{of(0, nil), list(step(nil, c(1), nil)), nil, 1},
		{of(2, c(2, 1, 2)), list(step(c(1, 2), c(1), nil)), nil, 1},
		{of(2, c(1, -1)), list(step(c(-1, 1), c(1), nil)), nil, 1},
		// Numbers move by what stands ahead.
		{
			row, list(step(c(3), c(1, 2, 3), c(1, 2)), step(c(-3, 5), c(4, 5), c(4)), step(c(5), c(7, 8), c(3))),
			list(step(c(2), c(1, 2), c(1)), step(c(3), c(7, 3), c(2)), step(c(-3, 5), c(4, 5), c(4)), step(c(5), c(8, 9), c(3))), 10,
		},
		{
			row, list(step(c(4, -5), c(6), nil), step(c(5), c(1, 2, 3, 4, 5), c(1, 2, 3, 4)), step(c(4), c(7, 8), c(5))),
			list(step(c(2), c(1, 2), c(1)), step(c(3), c(7, 3), c(2)), step(c(4), c(8, 4), c(3)), step(c(5), c(9, 5), c(4)), step(c(4), c(6, 10), c(5))), 11,
		},
		// Nothing.
		{example, nil, nil, 0},
		{example, list(), nil, 0},
		{example, list(step(nil, nil, nil)), nil, 0},
		{example, list(step(c(1), c(1, 2), c(1))), nil, 0},
		{example, list(step(c(2), c(1, 2), c(1)), step(c(2), c(5), nil)), nil, 0},
		{example, list(step(c(2), c(9), nil), step(c(2), c(1, 2), c(1))), nil, 0},
		{example, list(step(c(-1), c(2), nil), step(c(1), c(2), nil)), nil, 0},
		{of(-1), nil, nil, 0},
		{of(-1, c(1)), list(step(c(1), c(1), nil)), nil, 0},
		{of(1, c(1), c(2)), list(step(c(1), c(1), nil)), nil, 0},
		{of(api.MaxVars+1, c(1)), list(step(c(1), c(1), nil)), nil, 0},
		{of(1, many(api.MaxClauses+1, c(1))...), list(step(c(1), c(1), nil)), nil, 0},
	} {
		got, last := proof.Flat(x.f, x.steps)
		if !same(got, x.want) || last != x.last {
			t.Error(x.f, x.steps, got, last)
		}
	}
}
