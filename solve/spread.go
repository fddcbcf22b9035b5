package solve

import "chandler/cnf"

// clause is a clause that is looked at. The first two of its literals are watched; where it made a literal true, that is the first one.
type clause struct {
	lits   []int
	number int  // among the formula's clauses and the steps
	used   int  // how much it took part in clashes
	gone   bool // it is let go
}

// state is what is so of a variable.
type state struct {
	value  int     // 1: it is true, -1: it is false, 0: it is neither
	level  int     // how many decisions there were then
	reason *clause // what made it so (nil: a decision)
}

// watch: a clause is looked at from now on. One that is too short for two literals is looked at as each search begins.
func (s *Solver) watch(c *clause) {
	if len(c.lits) < 2 {
		s.short = append(s.short, c)
		return
	}
	for _, lit := range c.lits[:2] {
		s.add(lit, c)
	}
}

// add: a clause watches a literal.
func (s *Solver) add(lit int, c *clause) {
	at := s.place(lit)
	s.watched[at] = append(s.watched[at], c)
}

// place: where a literal stands in watched.
func (s *Solver) place(lit int) int { return lit + s.n }

// value: 1: a literal is true, -1: it is false, 0: it is neither.
func (k *search) value(lit int) int {
	if lit < 0 {
		return -k.vars[-lit].value
	}
	return k.vars[lit].value
}

// level: how many decisions there were when a literal became what it is.
func (k *search) level(lit int) int { return k.vars[cnf.Var(lit)].level }

// assign: a literal is true, by a clause (nil: as it was decided).
func (k *search) assign(lit int, reason *clause) {
	is := state{value: 1, level: len(k.levels), reason: reason}
	if lit < 0 {
		is.value = -1
	}
	k.vars[cnf.Var(lit)] = is
	k.trail = append(k.trail, lit)
}

// undo: only so many literals, those that became true first, are true still.
func (k *search) undo(many int) {
	for _, lit := range k.trail[many:] {
		v := cnf.Var(lit)
		k.last[v] = lit > 0
		k.vars[v] = state{}
		k.heap.Push(v)
	}
	k.trail = k.trail[:many]
	k.next = many // what was true ahead of a decision was spread ahead of it
}

// short clauses are true, or one of them can't be: that one.
func (k *search) begin() *clause {
	for _, c := range k.short {
		if len(c.lits) == 0 || k.value(c.lits[0]) < 0 {
			return c
		}
		if k.value(c.lits[0]) == 0 {
			k.assign(c.lits[0], c)
		}
	}
	return nil
}

// spread: what follows at once from what is true becomes true; a clause whose literals are all false (nil: there is none).
func (k *search) spread() *clause {
	for k.next < len(k.trail) {
		lit := k.trail[k.next]
		k.next++
		if clash := k.visit(-lit); clash != nil {
			return clash
		}
	}
	return nil
}

// visit: of the clauses that watch a literal that is false now, each watches another one, or makes its last one true; the first one that can't.
func (k *search) visit(lit int) *clause {
	at := k.place(lit)
	l := k.watched[at]
	kept := l[:0]
	for i, c := range l {
		if k.moves(c, lit) {
			continue
		}
		kept = append(kept, c)
		switch k.value(c.lits[0]) {
		case -1:
			k.watched[at] = append(kept, l[i+1:]...)
			return c
		case 0:
			k.assign(c.lits[0], c)
		}
	}
	k.watched[at] = kept
	return nil
}

// moves: does a clause watch another literal in place of one that is false? If not, that is its second one then.
func (k *search) moves(c *clause, lit int) bool {
	l := c.lits
	if l[0] == lit {
		l[0], l[1] = l[1], l[0]
	}
	if k.value(l[0]) > 0 {
		return false
	}
	for i := 2; i < len(l); i++ {
		if k.value(l[i]) >= 0 {
			l[1], l[i] = l[i], l[1]
			k.add(l[1], c)
			return true
		}
	}
	return false
}
