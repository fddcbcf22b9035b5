package solve

import (
	"math/rand/v2"
	"slices"
	"testing"

	"chandler/api"
	"chandler/cnf"
	"chandler/order"
)

// hard: a formula of clauses of three, as many as make a model neither likely nor unlikely.
func hard(d *rand.Rand, n int) cnf.Formula {
	f := cnf.Formula{N: n}
	for range n * 43 / 10 {
		var l []int
		for range 3 {
			l = append(l, (1+d.IntN(n))*(1-2*d.IntN(2)))
		}
		f.Clauses = append(f.Clauses, l)
	}
	return f
}

// begun: a search that may take as many steps as it takes.
func begun(t *testing.T, f cnf.Formula) *search {
	t.Helper()
	s, code := New(f)
	if code != api.OK {
		t.Fatal(f, code)
	}
	return &search{Solver: s, budget: api.MaxBudget, vars: make([]state, s.n+1)}
}

// looked: all clauses that are looked at, each watched by its first two literals alone, none of them let go.
func looked(t *testing.T, k *search) []*clause {
	t.Helper()
	seen := map[*clause]int{}
	l := slices.Clone(k.short)
	for at, list := range k.watched {
		for _, c := range list {
			if c.gone || !slices.ContainsFunc(c.lits[:2], func(lit int) bool { return k.place(lit) == at }) {
				t.Fatal("watched", c, at-k.n)
			}
			if seen[c]++; seen[c] == 1 {
				l = append(l, c)
			}
		}
	}
	for c, times := range seen {
		if times != 2 {
			t.Fatal("watched by", times, c)
		}
	}
	for _, c := range k.learnt {
		if seen[c] == 0 {
			t.Fatal("learnt, and not watched", c)
		}
	}
	return l
}

// TestSpread: what a search makes true, one decision behind the other, is what layer 12 says.
func TestSpread(t *testing.T) {
	d := rand.New(rand.NewPCG(14, 11))
	clashes, far := 0, 0
	for range 3000 {
		n := 3 + d.IntN(20)
		f := hard(d, n)
		if d.IntN(2) == 0 {
			f.Clauses = f.Clauses[:n]
		}
		if d.IntN(2) == 0 {
			f.Clauses = append(f.Clauses, []int{1}, []int{-3}, []int{1}, []int{-3, -3})
		}
		k := begun(t, f)
		clash := k.begin()
		var lits []int
		for range 4 {
			if clash == nil {
				clash = k.spread()
			}
			want, is := f.Spread(lits)
			if is != (clash != nil) {
				t.Fatal(f, lits, clash)
			}
			if is {
				clashes++
				break
			}
			if len(k.trail) != len(want) || !slices.Equal(cnf.Norm(k.trail), want) {
				t.Fatal(f, lits, k.trail, want)
			}
			far = max(far, len(want)-len(lits))
			if lit := (1 + d.IntN(n)) * (1 - 2*d.IntN(2)); k.value(lit) == 0 {
				lits = append(lits, lit)
				k.decide(lit)
			}
		}
		looked(t, k)
	}
	if clashes < 300 || far < 5 {
		t.Error("the dice say too little", clashes, far)
	}
}

// TestLearn: what is learnt from a clash is no clause that is there, has one literal of the last decision's level, and makes that true where all its others are false.
func TestLearn(t *testing.T) {
	d := rand.New(rand.NewPCG(14, 12))
	learnt := 0
	for range 100 {
		k := begun(t, hard(d, 10+d.IntN(40)))
		if k.begin() != nil {
			continue
		}
		for {
			clash, _ := k.dive()
			if clash == nil {
				break
			}
			top, ahead := len(k.levels), looked(t, k)
			used := map[int]int{}
			for _, c := range ahead {
				used[c.number] = c.used
			}
			levels := slices.Clone(k.vars)
			k.learn(clash)
			learnt++
			step := k.steps[len(k.steps)-1]
			lits := step.Clause
			for _, c := range ahead {
				if slices.Equal(cnf.Norm(c.lits), lits) {
					t.Fatal("it is there", lits)
				}
				if slices.Contains(step.From, c.number) != (c.used > used[c.number]) {
					t.Fatal("used", c.used, used[c.number])
				}
			}
			var last []int
			most := 0
			for _, lit := range lits {
				level := levels[cnf.Var(lit)].level
				switch {
				case level == top:
					last = append(last, lit)
				case level == 0:
					t.Fatal("what is so without a decision says nothing", lits)
				case k.value(lit) >= 0:
					t.Fatal("undone, or true", lit, lits)
				default:
					most = max(most, level)
				}
			}
			if len(last) != 1 || k.value(last[0]) != 1 || len(k.levels) != most || k.level(last[0]) != most {
				t.Fatal(lits, last, len(k.levels), most)
			}
		}
	}
	if learnt < 1000 {
		t.Error("the dice say too little", learnt)
	}
}

// TestThin: of too many learnt clauses half are let go, and none that was used more than one that is kept, or that made something true.
func TestThin(t *testing.T) {
	d := rand.New(rand.NewPCG(14, 13))
	thinned, made := 0, 0
	for thinned < 30 {
		k := begun(t, hard(d, 120))
		if k.begin() != nil {
			continue
		}
		k.most = 20 + d.IntN(20)
		for thinned < 30 {
			clash, _ := k.dive()
			if clash == nil {
				break
			}
			k.learn(clash)
			ahead, most := slices.Clone(k.learnt), k.most
			used := map[*clause]int{}
			for _, c := range ahead {
				used[c] = c.used
			}
			k.thin()
			if len(ahead) <= most {
				if k.most != most || !slices.Equal(k.learnt, ahead) {
					t.Fatal("not so many as may be kept", len(ahead), most)
				}
				continue
			}
			thinned++
			looked(t, k)
			least, free := len(k.steps), 0
			for _, c := range k.learnt {
				if c.used > used[c]/2 {
					t.Fatal("used long ago", c.used, used[c])
				}
				if k.vars[cnf.Var(c.lits[0])].reason == c {
					made++
				} else {
					free++
					least = min(least, used[c])
				}
			}
			for _, c := range ahead {
				if !slices.Contains(k.learnt, c) && (used[c] > least || k.vars[cnf.Var(c.lits[0])].reason == c) {
					t.Fatal("let go", c, used[c], least)
				}
			}
			if left := len(k.learnt); k.most <= most || left < (len(ahead)+1)/2 || free > (len(ahead)+1)/2 {
				t.Fatal("kept", left, free, len(ahead))
			}
		}
	}
	if made == 0 {
		t.Error("the dice say too little")
	}
}

// TestGrows: scores grow, by more with each clash, and never by more than layer 13 takes.
func TestGrows(t *testing.T) {
	d := rand.New(rand.NewPCG(14, 14))
	k := begun(t, hard(d, 150))
	if clash, _ := k.dive(); clash != nil {
		k.gain = order.MaxScore - 1
		k.learn(clash)
	}
	if k.gain != order.MaxScore {
		t.Fatal(k.gain)
	}
	k = begun(t, hard(d, 150))
	smaller, clashes := 0, 0
	for i := 1; i < 40; i++ {
		k.back(0)
		for range 32 {
			clash, _ := k.dive()
			if clash == nil {
				break
			}
			gain := k.gain
			k.learn(clash)
			clashes++
			if k.gain < gain {
				smaller++
			}
			if k.gain < firstGain || k.gain > order.MaxScore {
				t.Fatal(k.gain)
			}
			if step := k.steps[len(k.steps)-1]; len(step.On) > 0 && k.heap.Score(step.On[0]) == 0 {
				t.Fatal("no score", step)
			}
		}
	}
	if clashes < 600 || smaller == 0 {
		t.Error("the dice say too little", clashes, smaller)
	}
}

// TestRound: a round ends behind as many clashes as Luby's row says, at the beginning.
func TestRound(t *testing.T) {
	d := rand.New(rand.NewPCG(14, 16))
	ended := 0
	for range 40 {
		k := begun(t, hard(d, 100))
		if k.begin() != nil {
			continue
		}
		for i := 1; i < 9; i++ {
			ahead := k.taken
			if r := k.round(i); r.Status != 0 {
				break
			}
			ended++
			if k.taken != ahead+patience*order.Luby(i) || len(k.steps) != k.taken || len(k.levels) != 0 {
				t.Fatal(i, ahead, k.taken, len(k.levels))
			}
		}
	}
	if ended < 100 {
		t.Error("the dice say too little", ended)
	}
}

// TestLeft: whatever a search came to, nothing is true behind it, and all variables are in the heap.
func TestLeft(t *testing.T) {
	d := rand.New(rand.NewPCG(14, 15))
	var said [4]int
	for range 60 {
		n := 20 + d.IntN(60)
		k := begun(t, hard(d, n))
		for _, budget := range []int{0, 1, 5, api.MaxBudget, api.MaxBudget} {
			ahead := len(k.steps)
			r, _ := k.Solve([]int{1 + d.IntN(n), -1 - d.IntN(n)}, budget)
			said[r.Status]++
			if made := len(k.steps) - ahead; made != r.Steps && (r.Status != Unsat || made != r.Steps+1) {
				t.Fatal("made", made, r)
			}
			if k.heap.Len() != n {
				t.Fatal(r, k.heap.Len())
			}
			said := func(c *clause) bool {
				return slices.EqualFunc(cnf.Norm(c.lits), r.Core, func(a, b int) bool { return a == -b })
			}
			if l := looked(t, k); r.Status == Unsat && !cnf.Taut(r.Core) && !slices.ContainsFunc(l, said) {
				t.Fatal("what a core says isn't looked at", r)
			}
		}
	}
	if said[Sat] == 0 || said[Unsat] == 0 || said[Limit] == 0 {
		t.Error("the dice say too little", said)
	}
}
