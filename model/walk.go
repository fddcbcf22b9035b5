package model

import (
	"slices"

	"chandler/index"
	"chandler/view"
)

// walker goes from the roots on through all that a choice reaches.
type walker struct {
	Walk
	adm    []view.Cand
	choice []int
	needs  []index.Need // that are met, in order
}

// walk: all that is reached from the roots.
func walk(adm []view.Cand, roots []index.Need, choice []int) *walker {
	w := &walker{adm: adm, choice: choice, needs: slices.Clone(roots)}
	// What is met for the first time has its needs behind all that wait: so they stand in the order in which things are gone through.
	for at := 0; at < len(w.needs); at++ {
		w.meet(w.needs[at])
	}
	return w
}

// meet has a need's name reached, then each of its features.
func (w *walker) meet(n index.Need) {
	// Where nothing is chosen x is empty, and nothing follows from it.
	x, _ := w.chosen(n.Name)
	if !slices.Contains(w.Names, n.Name) {
		w.Names = append(w.Names, n.Name)
		w.needs = append(w.needs, x.Needs...)
	}
	for _, feat := range n.Feats {
		want := Want{Name: n.Name, Feat: feat}
		if slices.Contains(w.Wants, want) {
			continue
		}
		w.Wants = append(w.Wants, want)
		if at := x.Feat(feat); at >= 0 {
			w.needs = append(w.needs, x.Feats[at].Needs...)
		}
	}
}

// chosen: what is chosen of a name; false: nothing is.
func (w *walker) chosen(s string) (view.Cand, bool) {
	at := place(w.adm, w.choice, s)
	if at < 0 {
		return view.Cand{}, false
	}
	return w.adm[at], true
}

// takes: is something chosen of a need's, or a ban's, name, and in its range?
func (w *walker) takes(n index.Need) bool {
	x, ok := w.chosen(n.Name)
	return ok && n.Range.Has(x.Version)
}

// unmet: is a need met that takes nothing that is chosen?
func (w *walker) unmet() bool {
	return slices.ContainsFunc(w.needs, func(n index.Need) bool { return !w.takes(n) })
}

// lacking: is a feature reached that what is chosen hasn't?
func (w *walker) lacking() bool {
	return slices.ContainsFunc(w.Wants, func(want Want) bool {
		x, _ := w.chosen(want.Name)
		return x.Feat(want.Feat) < 0
	})
}

// banned: has something that is chosen a ban of something that is? (The choice's places are there.)
func (w *walker) banned() bool {
	return slices.ContainsFunc(w.choice, func(at int) bool {
		return slices.ContainsFunc(w.adm[at].Bans, w.takes)
	})
}

// unasked: is something chosen that isn't reached? (The choice's places are there.)
func (w *walker) unasked() bool {
	return slices.ContainsFunc(w.choice, func(at int) bool {
		return !slices.Contains(w.Names, w.adm[at].Name)
	})
}
