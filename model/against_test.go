package model_test

import (
	"cmp"
	"math/rand/v2"
	"reflect"
	"slices"
	"testing"

	"chandler/index"
	"chandler/model"
	"chandler/version"
	"chandler/view"
)

// dice throw candidates, roots and choices; calm ones throw such as have many right choices.
type dice struct {
	*rand.Rand
	calm bool
}

func one[T any](d dice, l ...T) T { return l[d.IntN(len(l))] }

// some: so many of a list at most, each once, in any order.
func some[T any](d dice, most int, l ...T) []T {
	l = slices.Clone(l)
	d.Shuffle(len(l), func(i, j int) { l[i], l[j] = l[j], l[i] })
	return l[:d.IntN(min(most, len(l))+1)]
}

func (d dice) need(feats int) index.Need {
	if d.calm {
		return need(one(d, "a", "b", "c", "@s/d"), one(d, "*", ">=1.0.0-a", ">=1.0.0-a", "!=1.1.0"), some(d, feats, "f", "g")...)
	}
	r := one(d, "*", "*", "*", ">=1.0.0-a", "^1.0.0", "^2.0.0", "=1.0.0", "<2.0.0|^3.0.0", "!=1.0.0")
	return need(one(d, "a", "b", "c", "@s/d", "e"), r, some(d, feats, "f", "g")...)
}

func (d dice) needs(most, feats int) []index.Need {
	var l []index.Need
	for range d.IntN(most + 1) {
		l = append(l, d.need(feats))
	}
	return l
}

func (d dice) cand() view.Cand {
	x := view.Cand{Source: one(d, "main", "far")}
	x.Name = one(d, "a", "a", "b", "b", "c", "@s/d")
	x.Version = v(one(d, "1.0.0", "2.0.0", "1.0.0-a", "1.1.0"))
	x.Needs = d.needs(2, 1)
	feats := some(d, 2, "f", "g")
	if d.calm {
		feats = []string{"g", "f"}
	} else if d.IntN(3) == 0 {
		x.Bans = d.needs(1, 0)
	}
	for _, s := range feats {
		x.Feats = append(x.Feats, index.Feat{Name: s, Needs: d.needs(1, 2)})
	}
	return x
}

// cands: candidates in layer 11's order, none twice.
func (d dice) cands(most int) []view.Cand {
	count := d.IntN(most + 1)
	if d.calm {
		count = most
	}
	var l []view.Cand
	for range count {
		x := d.cand()
		if view.Find(l, x.Name, x.Version, x.Source) < 0 {
			l = append(l, x)
		}
	}
	slices.SortFunc(l, func(a, b view.Cand) int {
		return cmp.Or(cmp.Compare(a.Name, b.Name), version.Compare(b.Version, a.Version), cmp.Compare(b.Source, a.Source))
	})
	return l
}

// junk: places that may be anything.
func (d dice) junk(n int) []int {
	var l []int
	for range d.IntN(5) {
		l = append(l, d.IntN(n+2)-1)
	}
	return l
}

// choices: all choices of a list: of each name none, or one.
func choices(adm []view.Cand) [][]int {
	l := [][]int{nil}
	for i, x := range adm {
		for _, c := range l {
			if !slices.ContainsFunc(c, func(at int) bool { return adm[at].Name == x.Name }) {
				l = append(l, append(slices.Clone(c), i))
			}
		}
	}
	return l
}

// thing is what is reached: a name, or a feature of one.
type thing struct {
	name, feat string
	isFeat     bool
}

// behind: what needs meet, one by one.
func behind(l []index.Need) []thing {
	var out []thing
	for _, n := range l {
		out = append(out, thing{name: n.Name})
		for _, f := range n.Feats {
			out = append(out, thing{n.Name, f, true})
		}
	}
	return out
}

// lastTaken: the candidate of a name, looked for from the end on.
func lastTaken(adm []view.Cand, choice []int, s string) *view.Cand {
	var x *view.Cand
	for i := len(choice) - 1; i >= 0; i-- {
		if at := choice[i]; at > -1 && at < len(adm) && adm[at].Name == s {
			x = &adm[at]
		}
	}
	return x
}

// asked: the needs that are met from a thing; false: there is no such feature.
func asked(x *view.Cand, of thing) ([]index.Need, bool) {
	if !of.isFeat {
		return x.Needs, true
	}
	for _, f := range x.Feats {
		if f.Name == of.feat {
			return f.Needs, true
		}
	}
	return nil, false
}

// rounds: what is reached, told in another way: things round by round, each round what the one ahead meets and no round ahead has.
func rounds(adm []view.Cand, roots []index.Need, choice []int) []thing {
	var all []thing
	round := behind(roots)
	for len(round) > 0 {
		var next []thing
		for _, of := range round {
			if slices.Contains(all, of) {
				continue
			}
			all = append(all, of)
			if x := lastTaken(adm, choice, of.name); x != nil {
				l, _ := asked(x, of)
				next = append(next, behind(l)...)
			}
		}
		round = next
	}
	return all
}

// parted: names, and features.
func parted(l []thing) model.Walk {
	var w model.Walk
	for _, x := range l {
		if x.isFeat {
			w.Wants = append(w.Wants, model.Want{Name: x.name, Feat: x.feat})
		} else {
			w.Names = append(w.Names, x.name)
		}
	}
	return w
}

// flaws: which of the five speak against a choice, told in another way: what is reached as a set that grows till it grows no more.
func flaws(adm []view.Cand, roots []index.Need, choice []int) map[int]int {
	l := map[int]int{}
	for i, a := range choice {
		if a < 0 || a >= len(adm) {
			return map[int]int{model.Places: 1}
		}
		for _, b := range choice[:i] {
			if b >= a || b < 0 || b >= len(adm) || adm[a].Name == adm[b].Name {
				return map[int]int{model.Places: 1}
			}
		}
	}
	fits := func(n index.Need) bool {
		return slices.ContainsFunc(view.In(adm, n), func(at int) bool { return slices.Contains(choice, at) })
	}
	met := map[thing]int{}
	needs := slices.Clone(roots)
	for grown := -1; grown < len(met); {
		grown = len(met)
		for _, of := range behind(needs) {
			met[of]++
		}
		needs = slices.Clone(roots)
		for _, at := range choice {
			if met[thing{name: adm[at].Name}] > 0 {
				needs = append(needs, adm[at].Needs...)
			}
			for _, f := range adm[at].Feats {
				if met[thing{adm[at].Name, f.Name, true}] > 0 {
					needs = append(needs, f.Needs...)
				}
			}
		}
	}
	for _, n := range needs {
		if !fits(n) {
			l[model.Unmet]++
		}
	}
	for of := range met {
		if x := lastTaken(adm, choice, of.name); x != nil {
			if _, ok := asked(x, of); !ok {
				l[model.Lacking]++
			}
		}
	}
	for _, at := range choice {
		for _, n := range adm[at].Bans {
			if fits(n) {
				l[model.Banned]++
			}
		}
		if met[thing{name: adm[at].Name}] == 0 {
			l[model.Unasked]++
		}
	}
	return l
}

// first: the first flaw; Right: there is none.
func first(l map[int]int) int {
	for why := model.Places; why <= model.Unasked; why++ {
		if l[why] > 0 {
			return why
		}
	}
	return model.Right
}

// row: the places of what is chosen, in the order in which the names are reached.
func row(adm []view.Cand, roots []index.Need, choice []int) []int {
	var l []int
	for _, s := range parted(rounds(adm, roots, choice)).Names {
		for _, at := range choice {
			if adm[at].Name == s {
				l = append(l, at)
			}
		}
	}
	return l
}

// alike: are two lists the same?
func alike(a, b model.Walk) bool {
	return slices.Equal(a.Names, b.Names) && slices.Equal(a.Wants, b.Wants)
}

// P16.3: of a right choice all that is chosen is reached, and all that is reached is chosen.
func allOf(t *testing.T, adm []view.Cand, roots []index.Need, choice []int) {
	t.Helper()
	w := model.Reach(adm, roots, choice)
	var names []string
	for _, at := range choice {
		names = append(names, adm[at].Name)
	}
	reached := slices.Sorted(slices.Values(w.Names))
	if slices.Sort(names); !slices.Equal(names, reached) {
		t.Fatalf("%+v\n%+v: %v reaches %v", adm, roots, choice, reached)
	}
	for _, x := range w.Wants {
		of := view.Of(adm, x.Name)
		has := func(at int) bool { return slices.Contains(choice, at) && adm[at].Feat(x.Feat) >= 0 }
		if !slices.ContainsFunc(of, has) {
			t.Fatalf("%+v\n%+v: %v hasn't %v", adm, roots, choice, x)
		}
	}
}

// P16.2: Compare is an order of right choices, that of their rows; none is at one place with another.
func ordered(t *testing.T, adm []view.Cand, roots []index.Need, right [][]int) {
	t.Helper()
	compare := func(a, b []int) int { return model.Compare(adm, roots, a, b) }
	for _, a := range right {
		for _, b := range right {
			got := compare(a, b)
			if want := slices.Compare(row(adm, roots, a), row(adm, roots, b)); got != want {
				t.Fatalf("%+v\n%+v: %v against %v is %d, want %d", adm, roots, a, b, got, want)
			}
			if got != -compare(b, a) || (got == 0) != slices.Equal(a, b) {
				t.Fatalf("%+v\n%+v: %v against %v is %d and %d", adm, roots, a, b, got, compare(b, a))
			}
			for _, c := range right {
				if got < 0 && compare(b, c) < 0 && compare(a, c) >= 0 {
					t.Fatalf("%+v\n%+v: %v, %v, %v", adm, roots, a, b, c)
				}
			}
		}
	}
}

// P16.1: the same, told in another way.
func against(t *testing.T, adm []view.Cand, roots []index.Need, choice []int) map[int]int {
	t.Helper()
	if got, want := model.Reach(adm, roots, choice), parted(rounds(adm, roots, choice)); !alike(got, want) {
		t.Fatalf("%+v\n%+v: %v reaches %v, want %v", adm, roots, choice, got, want)
	}
	l := flaws(adm, roots, choice)
	if got, want := model.Why(adm, roots, choice), first(l); got != want {
		t.Fatalf("%+v\n%+v: %v: %d, want %d", adm, roots, choice, got, want)
	}
	return l
}

// P16.1, P16.2, P16.3: random candidates and roots, in all their choices.
func TestRandomChoices(t *testing.T) {
	d := dice{Rand: rand.New(rand.NewPCG(16, 1))}
	whys, pairs := map[int]int{}, map[[2]int]int{}
	rights := map[int]int{}
	for range 4000 {
		d.calm = !d.calm
		adm, roots := d.cands(9), d.needs(3, 2)
		var right [][]int
		for _, c := range choices(adm) {
			l := against(t, adm, roots, c)
			whys[first(l)]++
			for a := range l {
				for b := range l {
					pairs[[2]int{a, b}]++
				}
			}
			if len(l) == 0 {
				right = append(right, c)
				allOf(t, adm, roots, c)
			}
		}
		ordered(t, adm, roots, right)
		rights[min(len(right), 5)]++
		for range 20 {
			whys[first(against(t, adm, roots, d.junk(len(adm))))]++
		}
	}
	for why := model.Right; why <= model.Unasked; why++ {
		if whys[why] < 500 {
			t.Errorf("%d of why %d", whys[why], why)
		}
		for other := model.Unmet; other <= model.Unasked && why >= model.Unmet; other++ {
			if pairs[[2]int{why, other}] < 100 {
				t.Errorf("%d of %d with %d", pairs[[2]int{why, other}], why, other)
			}
		}
	}
	for n := range 6 {
		if rights[n] < 50 {
			t.Errorf("%d times %d right choices", rights[n], n)
		}
	}
}

// Rule 5: a call hangs on what it is given alone; what isn't chosen changes nothing of what is reached, or right.
func TestUnchosen(t *testing.T) {
	d := dice{Rand: rand.New(rand.NewPCG(16, 2))}
	for range 2000 {
		adm, roots := d.cands(9), d.needs(3, 2)
		for _, c := range choices(adm) {
			var kept []view.Cand
			var places []int
			for i, at := range c {
				kept, places = append(kept, adm[at]), append(places, i)
			}
			if !alike(model.Reach(adm, roots, c), model.Reach(kept, roots, places)) || model.Why(adm, roots, c) != model.Why(kept, roots, places) {
				t.Fatalf("%+v\n%+v: %v", adm, roots, c)
			}
		}
	}
}

// Rule 4, rule 5: calls of all sorts change nothing, and answer the same again.
func TestSameAgain(t *testing.T) {
	d := dice{Rand: rand.New(rand.NewPCG(16, 3))}
	for range 300 {
		adm, roots := roomy(d.cands(9)), spared(d.needs(3, 2), need("spare", "*"))
		ahead, rootsAhead := whole(adm), slices.Clone(roots[:cap(roots)])
		l := choices(adm)
		a, b := one(d, l...), one(d, l...)
		w, why, side := model.Reach(adm, roots, a), model.Why(adm, roots, a), model.Compare(adm, roots, a, b)
		model.Reach(adm, roots, b)
		if !alike(model.Reach(adm, roots, a), w) || model.Why(adm, roots, a) != why || model.Compare(adm, roots, a, b) != side {
			t.Fatalf("%+v\n%+v: %v, %v", adm, roots, a, b)
		}
		if !reflect.DeepEqual(whole(adm), ahead) || !reflect.DeepEqual(roots[:cap(roots)], rootsAhead) {
			t.Fatal("what was handed in was changed")
		}
	}
}
