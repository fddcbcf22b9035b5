package solve_test

import (
	"math"
	"slices"
	"testing"

	"chandler/api"
	"chandler/cnf"
	"chandler/solve"
)

// of: a formula with these clauses.
func of(n int, clauses ...[]int) cnf.Formula { return cnf.Formula{N: n, Clauses: clauses} }

// c: a clause.
func c(lits ...int) []int { return lits }

// many: so many clauses, each like that.
func many(n int, like []int) [][]int { return slices.Repeat([][]int{like}, n) }

// solver: a formula's.
func solver(t *testing.T, f cnf.Formula) *solve.Solver {
	t.Helper()
	s, code := solve.New(f)
	if code != api.OK || s == nil {
		t.Fatal(f, code)
	}
	return s
}

// plain: a result that tells nothing.
func plain(r solve.Result) bool {
	return r.Status == 0 && r.Steps == 0 && len(r.Model) == 0 && len(r.Core) == 0
}

// holes: each of some things is in one of some holes, no two in the same.
func holes(things, holes int) cnf.Formula {
	f := of(things * holes)
	in := func(thing, hole int) int { return thing*holes + hole + 1 }
	for a := range things {
		var somewhere []int
		for hole := range holes {
			somewhere = append(somewhere, in(a, hole))
			for b := range a {
				f.Clauses = append(f.Clauses, c(-in(a, hole), -in(b, hole)))
			}
		}
		f.Clauses = append(f.Clauses, somewhere)
	}
	return f
}

func TestConstants(t *testing.T) {
	if solve.Sat != 1 || solve.Unsat != 2 || solve.Limit != 3 {
		t.Error(solve.Sat, solve.Unsat, solve.Limit)
	}
}

func TestNew(t *testing.T) {
	for _, x := range []struct {
		f    cnf.Formula
		want api.Errno
	}{
		{of(0), api.OK},
		{of(0, nil), api.OK},
		{of(3, c(1, -2), nil, c(3, 3), c(-1, 1)), api.OK},
		{of(api.MaxVars, c(api.MaxVars, -api.MaxVars)), api.OK},
		{of(1, many(api.MaxClauses, c(1))...), api.OK},
		{of(-1), api.Range},
		{of(math.MinInt), api.Range},
		{of(api.MaxVars + 1), api.Range},
		{of(math.MaxInt), api.Range},
		{of(1, many(api.MaxClauses+1, c(1))...), api.Bound},
		{of(0, c(1)), api.Range},
		{of(2, c(1), c(2, 0)), api.Range},
		{of(2, c(1), c(-3), c(2)), api.Range},
		{of(2, c(math.MinInt)), api.Range},
		{of(-1, many(api.MaxClauses+1, nil)...), api.Range},
		{of(2, many(api.MaxClauses+1, c(0))...), api.Bound},
	} {
		s, code := solve.New(x.f)
		if code != x.want || (s != nil) != (code == api.OK) {
			t.Error(x.f.N, len(x.f.Clauses), s, code)
		}
		if code == api.OK && len(s.Proof()) != 0 {
			t.Error("nothing was made so far", s.Proof())
		}
	}
}

func TestNil(t *testing.T) {
	var s *solve.Solver
	for _, assume := range [][]int{nil, c(1), c(0), c(1, -1), c(math.MinInt)} {
		for _, budget := range []int{0, -1, 7, api.MaxBudget, math.MinInt, math.MaxInt} {
			if r, code := s.Solve(assume, budget); code != api.Nil || !plain(r) {
				t.Error(assume, budget, r, code)
			}
		}
	}
	if l := s.Proof(); len(l) != 0 {
		t.Error(l)
	}
}

func TestAssumeRange(t *testing.T) {
	for _, x := range []struct {
		f      cnf.Formula
		assume []int
	}{
		{of(3), c(0)},
		{of(3), c(4)},
		{of(3), c(-4)},
		{of(3), c(1, 2, 3, 0)},
		{of(3), c(1, 4, 2)},
		{of(3), c(math.MinInt)},
		{of(3), c(math.MaxInt)},
		{of(3), c(1, -1, 4)},
		{of(3), c(4, -4)},
		{of(3), c(0, 0)},
		{of(0), c(1)},
		{of(0), c(-1)},
		{of(0), c(0)},
		{of(api.MaxVars), c(api.MaxVars + 1)},
		{of(api.MaxVars), c(-api.MaxVars - 1)},
		{of(2, nil), c(3)},
		{of(2, c(1), c(-1)), c(-3)},
	} {
		s := solver(t, x.f)
		for _, budget := range []int{0, -1, 1000, api.MaxBudget} {
			if r, code := s.Solve(x.assume, budget); code != api.Range || !plain(r) || len(s.Proof()) != 0 {
				t.Error(x.f, x.assume, budget, r, code)
			}
		}
	}
}

// TestContraries: the least variable of which both are assumed, without a step, whatever else is so.
func TestContraries(t *testing.T) {
	for _, x := range []struct{ assume, want []int }{
		{c(1, -1), c(-1, 1)},
		{c(-1, 1), c(-1, 1)},
		{c(3, -3), c(-3, 3)},
		{c(2, 3, 1, -3), c(-3, 3)},
		{c(3, -3, 2, -2), c(-2, 2)},
		{c(-3, 2, 3, -2, 3, 2), c(-2, 2)},
		{c(4, 3, 2, 1, -1, -2, -3, -4), c(-1, 1)},
		{c(4, -1, 4, -4, -1), c(-4, 4)},
	} {
		for _, f := range []cnf.Formula{
			of(4),
			of(4, c(1, 2), c(-3, 4)),
			of(4, nil),
			of(4, c(2), c(-2)),
			of(4, c(-1), c(-2), c(-3), c(-4)),
			of(4, c(1, 2), c(1, -2), c(-1, 2), c(-1, -2)),
		} {
			s := solver(t, f)
			for _, budget := range []int{0, math.MinInt, 1, api.MaxBudget, math.MaxInt} {
				r, code := s.Solve(x.assume, budget)
				if code != api.OK || r.Status != solve.Unsat || !slices.Equal(r.Core, x.want) || r.Steps != 0 || len(r.Model) != 0 {
					t.Error(f, x.assume, budget, r, code)
				}
			}
			if l := s.Proof(); len(l) != 0 {
				t.Error("a step", f, x.assume, l)
			}
		}
	}
}

func TestBound(t *testing.T) {
	for _, x := range []struct{ n, want int }{
		{-1, 0},
		{-2, 0},
		{math.MinInt, 0},
		{0, 400},
		{1, 5400},
		{2, 64800},
		{3, 729000},
		{4, 7873200},
		{10, 8368282562400},
		{14, 73205735855875200},
		{15, 700029849121806600},
		{16, api.MaxBudget},
		{17, api.MaxBudget},
		{20, api.MaxBudget},
		{21, api.MaxBudget},
		{59, api.MaxBudget},
		{60, api.MaxBudget},
		{61, api.MaxBudget},
		{api.MaxVars, api.MaxBudget},
		{api.MaxVars + 1, api.MaxBudget},
		{1 << 40, api.MaxBudget},
		{math.MaxInt - 2, api.MaxBudget},
		{math.MaxInt, api.MaxBudget},
	} {
		if got := solve.Bound(x.n); got != x.want {
			t.Error(x.n, got, x.want)
		}
	}
}

// TestExample: a step without literals.
func TestExample(t *testing.T) {
	s := solver(t, of(2, c(1, 2), c(-1), c(-2)))
	r, code := s.Solve(nil, api.MaxBudget)
	l := s.Proof()
	if code != api.OK || r.Status != solve.Unsat || len(r.Core) != 0 || len(l) == 0 || len(l[len(l)-1].Clause) != 0 {
		t.Error(r, code, l)
	}
}

// TestForced: where there is one model alone, or one core.
func TestForced(t *testing.T) {
	for _, x := range []struct {
		f      cnf.Formula
		assume []int
		model  []bool
		core   []int
	}{
		{of(0), nil, nil, nil},
		{of(2, c(1), c(-2)), nil, []bool{true, false}, nil},
		{of(2, c(-1), c(1, 2)), nil, []bool{false, true}, nil},
		{of(2), c(2, -1), []bool{false, true}, nil},
		{of(2), c(2, -1, 2, 2, -1), []bool{false, true}, nil},
		{of(3, c(-1, 2), c(-2, 3)), c(1), []bool{true, true, true}, nil},
		{of(3, c(1, 2, 3), c(1, 2, -3), c(1, -2, 3), c(1, -2, -3), c(-1, 2), c(-1, 3)), nil, []bool{true, true, true}, nil},
		{of(3, c(1, 1), c(2, -2, -1), c(-3, -3, -3), c(-2, 3, -2)), nil, []bool{true, false, false}, nil},
		{of(1, c(-1)), c(1), nil, c(1)},
		{of(1, c(-1)), c(1, 1), nil, c(1)},
		{of(1, c(1)), c(-1), nil, c(-1)},
		{of(2, c(-1, -2)), c(2, 1), nil, c(1, 2)},
		{of(2, c(-2, -1, -2)), c(2, 2, 1), nil, c(1, 2)},
		{of(3, c(-3), c(1, 2)), c(3), nil, c(3)},
		{of(4, c(1, -2, 3, -4)), c(4, -3, 2, -1), nil, c(-1, 2, -3, 4)},
		{of(4, c(-1, 2), c(-2, 3), c(-3, 4)), c(-4, 1), nil, c(1, -4)},
		{of(3, c(-1, 2), c(-1, -2)), c(1), nil, c(1)},
		{of(4, c(-1, 2, 3), c(-1, 2, -3), c(-1, -2, 3), c(-1, -2, -3)), c(1), nil, c(1)},
	} {
		s := solver(t, x.f)
		r, code := s.Solve(x.assume, api.MaxBudget)
		want := solve.Sat
		if x.core != nil {
			want = solve.Unsat
		}
		if code != api.OK || r.Status != want || !slices.Equal(r.Model, x.model) || !slices.Equal(r.Core, x.core) {
			t.Error(x.f, x.assume, r, code)
		}
		judge{t, x.f, s}.said(x.assume, api.MaxBudget, nil, r, code)
	}
}

// TestNone: formulas without a model have no core, whatever is assumed, and a last step without literals.
func TestNone(t *testing.T) {
	for _, f := range []cnf.Formula{
		of(0, nil),
		of(0, nil, c()),
		of(2, c(1, 2), nil),
		of(2, nil, c(1), c(-1)),
		of(1, c(1), c(-1)),
		of(1, c(-1, -1), c(1, 1, 1)),
		of(3, c(1), c(-1, 2), c(-2, 3), c(-3, -1)),
		of(3, c(3, -3), c(1), c(2, -2, 1), c(-1)),
		of(2, c(1, 2), c(1, -2), c(-1, 2), c(-1, -2)),
		holes(1, 0),
		holes(2, 1),
		holes(3, 2),
		holes(5, 4),
	} {
		for _, assume := range [][]int{nil, c(1), c(-1), c(2, 1)} {
			if cnf.CheckClause(assume, f.N) != api.OK {
				continue
			}
			s := solver(t, f)
			for range 3 {
				ahead := s.Proof()
				r, code := s.Solve(assume, api.MaxBudget)
				judge{t, f, s}.said(assume, api.MaxBudget, ahead, r, code)
				if r.Status != solve.Unsat {
					t.Error(f, assume, r)
				}
			}
			// With nothing assumed there is no core that one might tell.
			r, code := s.Solve(nil, api.MaxBudget)
			whole := s.Proof()
			if again, _ := s.Solve(assume, api.MaxBudget); again.Status != solve.Unsat || len(s.Proof()) != len(whole) {
				t.Error("behind the last step there is none", f, assume, again)
			}
			if l := s.Proof(); code != api.OK || r.Status != solve.Unsat || len(r.Core) != 0 || len(l[len(l)-1].Clause) != 0 {
				t.Error(f, assume, r, code, l)
			}
		}
	}
}

// TestHoles: more things than holes, and as many.
func TestHoles(t *testing.T) {
	for n := range 7 {
		f := holes(n+1, n)
		s := solver(t, f)
		r, code := s.Solve(nil, api.MaxBudget)
		judge{t, f, s}.said(nil, api.MaxBudget, nil, r, code)
		if r.Status != solve.Unsat || len(r.Core) != 0 {
			t.Error(n, r.Status, r.Core)
		}
		f = holes(n, n)
		s = solver(t, f)
		if r, _ := s.Solve(nil, api.MaxBudget); r.Status != solve.Sat || !f.Holds(r.Model) {
			t.Error(n, r)
		}
	}
}

// TestHolesAssumed: whether there is one thing more is assumed, so that there is a core, and a model without it.
func TestHolesAssumed(t *testing.T) {
	for n := 1; n < 6; n++ {
		f := holes(n+1, n)
		f.N++
		for i, x := range f.Clauses {
			if x[0] == n*n+1 {
				f.Clauses[i] = append(x, -f.N)
			}
		}
		s := solver(t, f)
		for range 2 {
			for _, assume := range [][]int{c(f.N), c(-f.N), nil, c(f.N, 1), c(1)} {
				ahead := s.Proof()
				r, code := s.Solve(assume, api.MaxBudget)
				judge{t, f, s}.said(assume, api.MaxBudget, ahead, r, code)
				if (r.Status == solve.Unsat) != slices.Contains(assume, f.N) {
					t.Error(n, assume, r.Status)
				}
			}
		}
	}
}
