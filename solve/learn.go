package solve

import (
	"cmp"
	"slices"

	"chandler/cnf"
	"chandler/order"
)

const (
	firstGain = 1 << 10 // what a score grows by at first
	gainPart  = 16      // with each clash a score's growth grows by such a part of itself: what was of late counts more
	scorePart = 1 << 20 // what layer 13 divides all scores by when one is too great
	firstMost = 300     // how many learnt clauses are kept at first
	moreMost  = 100     // how many more each time that some are let go
)

// chain is a clause as it comes about: a clause that others are joined to, one by one.
type chain struct {
	*search
	at   []int // by variables: the literal that stands in it
	left int   // how many of these are of the last decision's level
	out  Step
}

// derive: from a clause on, literals that are false are resolved away by what made them so, those first that became so last: away says which, by a variable, and by how many of the last decision's level are left.
func (k *search) derive(c *clause, away func(v, left int) bool) Step {
	h := &chain{search: k, at: make([]int, k.n+1)}
	h.join(c)
	for i := len(k.trail) - 1; i >= 0; i-- {
		v := cnf.Var(k.trail[i])
		if h.at[v] == -k.trail[i] && away(v, h.left) {
			h.out.On = append(h.out.On, v)
			h.join(k.vars[v].reason)
			h.drop(v)
		}
	}
	for _, lit := range h.at {
		if lit != 0 {
			h.out.Clause = append(h.out.Clause, lit)
		}
	}
	return h.out
}

// join: a clause's literals stand in it, too. What takes part in a clash has a higher score.
func (h *chain) join(c *clause) {
	h.out.From = append(h.out.From, c.number)
	c.used++
	for _, lit := range c.lits {
		v := cnf.Var(lit)
		if h.at[v] != 0 {
			continue
		}
		h.at[v] = lit
		if h.level(v) == len(h.levels) {
			h.left++
		}
		if h.heap.Bump(v, h.gain) {
			h.gain /= scorePart
		}
	}
}

// drop: a variable's literals stand in it no more.
func (h *chain) drop(v int) {
	h.at[v] = 0
	if h.level(v) == len(h.levels) {
		h.left--
	}
}

// learn: a clause from a clash, with one literal of the last decision's level; back to where that makes it true.
func (k *search) learn(clash *clause) {
	top := len(k.levels)
	step := k.derive(clash, func(v, left int) bool {
		level := k.level(v)
		return level == 0 || level == top && left > 1
	})
	k.gain = min(k.gain+k.gain/gainPart, order.MaxScore)
	// What is undone first is watched.
	lits := slices.Clone(step.Clause)
	slices.SortStableFunc(lits, func(a, b int) int { return cmp.Compare(k.level(b), k.level(a)) })
	to := 0
	if len(lits) > 1 {
		to = k.level(lits[1])
	}
	k.back(to)
	k.assign(lits[0], k.keep(step, lits))
}

// keep: a step's clause, its literals in that order, is looked at from now on.
func (s *Solver) keep(step Step, lits []int) *clause {
	s.steps = append(s.steps, step)
	c := &clause{lits: lits, number: s.given + len(s.steps)}
	if len(lits) > 1 {
		s.learnt = append(s.learnt, c)
	}
	s.watch(c)
	return c
}

// thin: of too many learnt clauses half are let go, those used least, but for those that made something true; then more may be kept.
func (k *search) thin() {
	if len(k.learnt) <= k.most {
		return
	}
	slices.SortStableFunc(k.learnt, func(a, b *clause) int { return cmp.Compare(a.used, b.used) })
	for i, c := range k.learnt {
		c.gone = i < len(k.learnt)/2 && k.vars[cnf.Var(c.lits[0])].reason != c
		c.used /= 2 // what was of late counts more
	}
	gone := func(c *clause) bool { return c.gone }
	k.learnt = slices.DeleteFunc(k.learnt, gone)
	for i, l := range k.watched {
		k.watched[i] = slices.DeleteFunc(l, gone)
	}
	k.most += moreMost
}
