package solve

import (
	"slices"

	"chandler/api"
	"chandler/cnf"
	"chandler/order"
)

// patience is how many clashes there are, for each one of Luby's numbers, before a search begins anew.
const patience = 32

// search is a solver at work: which literals are true so far, and why.
type search struct {
	*Solver
	assume []int   // in order, each once, no two of them contraries
	budget int     // so many steps may be taken (below 0: none)
	taken  int     // so many are
	vars   []state // by variables
	trail  []int   // the literals that are true, as they became so
	next   int     // the place of the first of them that isn't spread
	levels []int   // by decisions: how many literals were true ahead of it
}

// spent is what a search panics with that has used up its steps.
type spent struct{ steps int }

// step: a step is taken, if one is left.
func (k *search) step() {
	if k.taken >= k.budget && k.budget < api.MaxBudget {
		panic(spent{k.taken})
	}
	k.taken++
}

// run: till it is known whether there is a model.
func (k *search) run() Result {
	if clash := k.begin(); clash != nil {
		return k.unsat(clash)
	}
	for i := 1; ; i++ {
		if r := k.round(i); r.Status != 0 {
			return r
		}
	}
}

// round: the i-th one, till it is known; or till there were as many clashes as it may have: no Status, and the next one begins anew.
func (k *search) round(i int) Result {
	for range patience * order.Luby(i) {
		clash, r := k.dive()
		if clash == nil {
			return r
		}
		k.step()
		k.learn(clash)
		k.thin()
	}
	k.back(0)
	return Result{}
}

// dive: decision by decision, till there is a clash, or, without one, a result.
func (k *search) dive() (*clause, Result) {
	for {
		clash, level := k.spread(), len(k.levels)
		switch {
		case clash != nil && level > len(k.assume):
			return clash, Result{}
		case clash != nil: // nothing is decided but assumptions
			return nil, k.unsat(clash)
		case level < len(k.assume):
			lit := k.assume[level]
			if k.value(lit) < 0 {
				return nil, k.unsat(k.vars[cnf.Var(lit)].reason)
			}
			k.decide(lit)
		default:
			v := k.open()
			if v == 0 {
				return nil, k.sat()
			}
			k.decide(k.way(v))
		}
	}
}

// open: the variable that is next, of those that are neither true nor false (0: there is none).
func (k *search) open() int {
	for {
		v, ok := k.heap.Pop()
		if !ok || k.value(v) == 0 {
			return v
		}
	}
}

// way: a variable's literal that was true last.
func (k *search) way(v int) int {
	if k.last[v] {
		return v
	}
	return -v
}

// decide: a level more, on which a literal is true. An assumption that was true ahead has a level, too, so that there are as many as assumptions.
func (k *search) decide(lit int) {
	k.levels = append(k.levels, len(k.trail))
	if k.value(lit) == 0 {
		k.assign(lit, nil)
	}
}

// back: to a level; those above it are undone.
func (k *search) back(level int) {
	if level < len(k.levels) {
		k.undo(k.levels[level])
		k.levels = k.levels[:level]
	}
}

// sat: all variables are something, and no clause clashes.
func (k *search) sat() Result {
	var model []bool
	for v := range k.n {
		model = append(model, k.value(v+1) > 0)
	}
	return Result{Status: Sat, Model: model, Steps: k.taken}
}

// unsat: where nothing is decided but assumptions, a clause that is false, or that has made an assumption's contrary true: no model has all of them.
func (k *search) unsat(c *clause) Result {
	step := k.derive(c, func(v, _ int) bool { return k.vars[v].reason != nil })
	if !k.made(step.Clause) {
		k.keep(step, slices.Clone(step.Clause))
	}
	var core []int
	for _, lit := range step.Clause {
		core = append(core, -lit)
	}
	return Result{Status: Unsat, Core: core, Steps: k.taken}
}

// made: is that a step's clause already? Who asks the same again isn't told it twice.
func (k *search) made(c []int) bool {
	return slices.ContainsFunc(k.steps, func(x Step) bool { return slices.Equal(x.Clause, c) })
}
