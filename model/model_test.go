package model_test

import (
	"math"
	"reflect"
	"slices"
	"strings"
	"testing"

	"chandler/api"
	"chandler/index"
	"chandler/manifest"
	"chandler/model"
	"chandler/policy"
	"chandler/spec"
	"chandler/version"
	"chandler/view"
)

// listed: the candidates of indexes' lines, in layer 11's order. Entries have no digest and labels in their lines; what stands ahead of an index's line is of main.
func listed(t *testing.T, text string) []view.Cand {
	t.Helper()
	p, f := policy.Parse("policy\nsource main 3ff0000000000000 open\nsource far 0000000000000000 open\n")
	if f.Code != api.OK {
		t.Fatal(f)
	}
	texts := []string{"index main\n"}
	for line := range strings.Lines(text) {
		switch {
		case strings.HasPrefix(line, "index "):
			texts = append(texts, "")
		case strings.HasPrefix(line, "entry "):
			line = strings.TrimSuffix(line, "\n") + " 0000000000000000 -\n"
		}
		texts[len(texts)-1] += line
	}
	var cat []index.Index
	for _, s := range texts {
		x, f := index.Parse(s)
		if f.Code != api.OK {
			t.Fatalf("%q: %v", s, f)
		}
		cat = append(cat, x)
	}
	return view.Adm(view.See(p, 0, cat))
}

// wanted: the roots of lines: name, range, features.
func wanted(t *testing.T, text string) []index.Need {
	t.Helper()
	s := "manifest\n"
	for line := range strings.Lines(text) {
		s += "root " + line
	}
	m, f := manifest.Parse(s)
	if f.Code != api.OK {
		t.Fatalf("%q: %v", s, f)
	}
	return m.Roots
}

// v is the version of a text.
func v(s string) version.Version {
	x, ok := version.Parse(s)
	if !ok {
		panic("no version: " + s)
	}
	return x
}

// need is a need, by its words.
func need(s, r string, feats ...string) index.Need {
	rng, ok := spec.Parse(r)
	if !ok {
		panic("no range: " + r)
	}
	return index.Need{Name: s, Range: rng, Feats: feats}
}

// chosen: the places of names and versions, of main, one behind the other.
func chosen(t *testing.T, adm []view.Cand, text string) []int {
	t.Helper()
	var choice []int
	w := strings.Fields(text)
	for i := 0; i < len(w); i += 2 {
		at := view.Find(adm, w[i], v(w[i+1]), "main")
		if at < 0 {
			t.Fatalf("no %s %s", w[i], w[i+1])
		}
		choice = append(choice, at)
	}
	return choice
}

// told: what is reached: the names; the features with the name ahead.
func told(w model.Walk) string {
	l := slices.Clone(w.Names)
	l = append(l, ";")
	for _, x := range w.Wants {
		l = append(l, x.Name+"+"+x.Feat)
	}
	return strings.Join(l, " ")
}

// P16.1: the numbers that tell why.
func TestNumbers(t *testing.T) {
	got := []int{model.Right, model.Places, model.Unmet, model.Lacking, model.Banned, model.Unasked}
	if !slices.Equal(got, []int{0, 1, 2, 3, 4, 5}) {
		t.Error(got)
	}
}

// P16.1: what is reached, in order.
func TestReach(t *testing.T) {
	for _, x := range []struct{ name, adm, roots, choice, want string }{
		{"nothing", "entry a 1.0.0\n", "", "a 1.0.0", ";"},
		{"a root alone", "entry a 1.0.0\n", "a *\n", "a 1.0.0", "a ;"},
		{"example 1", "entry a 1.0.0\nneed z *\nfeature f\nneed b *\n", "a * f\n", "a 1.0.0", "a z b ; a+f"},
		{"roots as they stand", "", "c *\na *\n@s/b *\n", "", "c a @s/b ;"},
		{"roots' names once", "", "c *\na * g\nc * h\na * g f\n", "", "c a ; a+g c+h a+f"},
		{"a root's features as they stand", "", "a * g f h\nb * f\n", "", "a b ; a+g a+f a+h b+f"},
		{"needs as they stand", "entry a 1.0.0\nneed d *\nneed b * g f\nneed c *\n", "a *\n", "a 1.0.0", "a d b c ; b+g b+f"},
		{"round by round", "entry a 1.0.0\nneed d *\nentry b 1.0.0\nneed e *\nentry d 1.0.0\nneed f *\nentry e 1.0.0\nneed a *\nneed g *\n", "a *\nb *\nc *\n", "a 1.0.0 b 1.0.0 d 1.0.0 e 1.0.0", "a b c d e f g ;"},
		{"names and features in one row", "entry a 1.0.0\nneed x *\nfeature f\nneed y *\nfeature g\nneed w *\nentry b 1.0.0\nneed u *\nentry x 1.0.0\nneed z *\n", "a * g f\nb *\n", "a 1.0.0 b 1.0.0 x 1.0.0", "a b x w y u z ; a+g a+f"},
		{"a feature that is met later", "entry a 1.0.0\nneed c *\nfeature f\nneed d *\nentry b 1.0.0\nneed a * f\nneed e *\nentry c 1.0.0\nneed g *\n", "a *\nb *\n", "a 1.0.0 b 1.0.0 c 1.0.0", "a b c e g d ; a+f"},
		{"a feature's needs have features", "entry a 1.0.0\nfeature f\nneed b * h\nneed a * g\nfeature g\nneed c * k\nentry b 1.0.0\nfeature h\nneed d *\n", "a * f\n", "a 1.0.0 b 1.0.0", "a b d c ; a+f b+h a+g c+k"},
		{"circles", "entry a 1.0.0\nneed b *\nneed a * f\nfeature f\nneed a * f\nneed b * f\nentry b 1.0.0\nneed a *\nneed b *\nfeature f\nneed c *\n", "b *\n", "a 1.0.0 b 1.0.0", "b a c ; a+f b+f"},
		{"a feature that nobody asks for", "entry a 1.0.0\nneed b *\nfeature f\nneed c *\n", "a *\n", "a 1.0.0", "a b ;"},
		{"one feature of two names", "entry a 1.0.0\nfeature f\nneed c *\nentry b 1.0.0\nfeature f\nneed d *\n", "a *\nb * f\n", "a 1.0.0 b 1.0.0", "a b d ; b+f"},
		{"what isn't chosen", "entry a 1.0.0\nneed b * f\nfeature g\nneed c *\nentry b 1.0.0\nneed d *\nfeature f\nneed e *\n", "a * g\n", "a 1.0.0", "a b c ; a+g b+f"},
		{"what is chosen decides", "entry a 1.0.0\nneed b *\nfeature f\nneed c *\nentry a 2.0.0\nneed d *\nfeature f\nneed e *\n", "a * f\n", "a 1.0.0", "a b c ; a+f"},
		{"a feature that isn't there", "entry a 1.0.0\nfeature f\nneed b *\nentry a 2.0.0\nfeature g\nneed c *\n", "a * g\n", "a 1.0.0", "a ; a+g"},
		{"out of its range", "entry a 1.0.0\nneed b *\nfeature f\nneed c *\n", "a ^2.0.0 f\n", "a 1.0.0", "a b c ; a+f"},
		{"what nobody asks for", "entry a 1.0.0\nentry b 1.0.0\nneed c *\n", "a *\n", "a 1.0.0 b 1.0.0", "a ;"},
		{"bans reach nothing", "entry a 1.0.0\nban b *\nneed c *\n", "a *\n", "a 1.0.0", "a c ;"},
		// Of a name the first place of choice counts, whatever the list's order is.
		{"two of a name", "entry a 1.0.0\nneed b *\nentry a 2.0.0\nneed c *\nfeature f\nneed d *\n", "a * f\n", "a 1.0.0 a 2.0.0", "a b ; a+f"},
		{"two of a name, the other way round", "entry a 1.0.0\nneed b *\nentry a 2.0.0\nneed c *\nfeature f\nneed d *\n", "a * f\n", "a 2.0.0 a 1.0.0", "a c d ; a+f"},
	} {
		adm := listed(t, x.adm)
		if got := told(model.Reach(adm, wanted(t, x.roots), chosen(t, adm, x.choice))); got != x.want {
			t.Errorf("%s: %q, want %q", x.name, got, x.want)
		}
	}
}

// P16.1: places that aren't there count for nothing, however they stand.
func TestReachPlaces(t *testing.T) {
	adm := listed(t, "entry a 2.0.0\nneed b *\nentry a 1.0.0\nneed c *\nentry b 1.0.0\nneed d *\n")
	for _, x := range []struct {
		choice []int
		want   string
	}{
		{nil, "a ;"},
		{[]int{-1, 3, math.MaxInt, math.MinInt}, "a ;"},
		{[]int{0}, "a b ;"},
		{[]int{-1, 1}, "a c ;"},
		{[]int{3, 0, 1}, "a b ;"},
		{[]int{1, 0}, "a c ;"},
		{[]int{2, 0}, "a b d ;"},
		{[]int{2, 2, 0, 0}, "a b d ;"},
		{[]int{math.MaxInt, 2, -3, 1, 0}, "a c ;"},
		{[]int{2, math.MinInt, 0, 1}, "a b d ;"},
	} {
		if got := told(model.Reach(adm, wanted(t, "a *\n"), x.choice)); got != x.want {
			t.Errorf("%v: %q, want %q", x.choice, got, x.want)
		}
	}
	if w := model.Reach(nil, wanted(t, "a * f\n"), []int{0}); told(w) != "a ; a+f" {
		t.Errorf("of no candidates: %q", told(w))
	}
}

// P16.1: what was made by hand: a feature that is there twice, texts that are no names.
func TestReachByHand(t *testing.T) {
	adm := []view.Cand{
		{Entry: index.Entry{Name: "a", Feats: []index.Feat{
			{Name: "g", Needs: []index.Need{{Name: "w"}}},
			{Name: "f", Needs: []index.Need{{Name: "x"}}},
			{Name: "f", Needs: []index.Need{{Name: "y"}}},
			{Name: "", Needs: []index.Need{{Name: "z"}}},
		}}},
		{Entry: index.Entry{Name: "", Needs: []index.Need{{Name: "u"}}}},
	}
	for _, x := range []struct {
		root index.Need
		want []string
	}{
		{index.Need{Name: "a", Feats: []string{"f", "f"}}, []string{"a", "x"}},
		{index.Need{Name: "a", Feats: []string{""}}, []string{"a", "z"}},
		{index.Need{Name: "a"}, []string{"a"}},
		{index.Need{Name: ""}, []string{"", "u"}},
		{index.Need{Name: "", Feats: []string{"a"}}, []string{"", "u"}},
		{index.Need{Name: "a f"}, []string{"a f"}},
	} {
		got := model.Reach(adm, []index.Need{x.root}, []int{0, 1})
		var wants []model.Want
		if len(x.root.Feats) > 0 {
			wants = []model.Want{{Name: x.root.Name, Feat: x.root.Feats[0]}}
		}
		if !slices.Equal(got.Names, x.want) || !slices.Equal(got.Wants, wants) {
			t.Errorf("%+v: %q, want %q, %q", x.root, got, x.want, wants)
		}
	}
}

// shop: what the choices below are taken from: places 0 and 1 are a 2.0.0 and a 1.0.0, 2 to 4 b 2.0.0, 1.0.0 and 1.0.0 of far, 5 c 1.0.0-rc.2, 6 d 1.0.0.
const shop = "entry a 2.0.0\nneed b ^2.0.0\nfeature f\nneed c >=1.0.0-rc.1\nfeature g\nneed d * f\n" +
	"entry a 1.0.0\nban d ^1.0.0\nban b ^2.0.0\nneed b ^1.0.0\n" +
	"entry b 2.0.0\nentry b 1.0.0\n" +
	"entry c 1.0.0-rc.2\nneed c >=1.0.0-rc.2\n" +
	"entry d 1.0.0\nban a ^1.0.0\nneed a *\nfeature h\nneed d <1.0.0\n" +
	"index far\nentry b 1.0.0\n"

// P16.1: what is no choice.
func TestWhyPlaces(t *testing.T) {
	adm := listed(t, shop)
	if len(adm) != 7 {
		t.Fatal(len(adm))
	}
	roots := wanted(t, "a *\n")
	for _, x := range []struct {
		choice []int
		want   int
	}{
		{[]int{0, 2}, model.Right},
		{[]int{1, 3}, model.Right},
		{[]int{1, 4}, model.Right},
		// They don't rise.
		{[]int{2, 0}, model.Places},
		{[]int{0, 0}, model.Places},
		{[]int{0, 2, 2}, model.Places},
		{[]int{0, 6, 5}, model.Places},
		{[]int{4, 1}, model.Places},
		// They aren't there.
		{[]int{-1, 0, 2}, model.Places},
		{[]int{-1}, model.Places},
		{[]int{0, 2, 7}, model.Places},
		{[]int{7}, model.Places},
		{[]int{0, 2, math.MaxInt}, model.Places},
		{[]int{math.MinInt, 0, 2}, model.Places},
		// Two of one name, of one version too.
		{[]int{0, 1}, model.Places},
		{[]int{0, 1, 2}, model.Places},
		{[]int{1, 3, 4}, model.Places},
		{[]int{2, 4}, model.Places},
		{[]int{0, 2, 3, 5}, model.Places},
	} {
		if got := model.Why(adm, roots, x.choice); got != x.want {
			t.Errorf("%v: %d, want %d", x.choice, got, x.want)
		}
	}
	// Where the list isn't in order, two of one name may stand apart.
	apart := []view.Cand{adm[0], adm[2], adm[1]}
	for _, x := range []struct {
		choice []int
		want   int
	}{{[]int{0, 1}, model.Right}, {[]int{0, 1, 2}, model.Places}, {[]int{0, 2}, model.Places}} {
		if got := model.Why(apart, roots, x.choice); got != x.want {
			t.Errorf("apart: %v: %d, want %d", x.choice, got, x.want)
		}
	}
	if got := model.Why(nil, nil, []int{0}); got != model.Places {
		t.Errorf("a place in nothing: %d", got)
	}
}

// P16.1: why a choice isn't right.
func TestWhy(t *testing.T) {
	adm := listed(t, shop)
	for _, x := range []struct {
		roots, choice string
		want          int
	}{
		{"", "", model.Right},
		{"a *\n", "a 2.0.0 b 2.0.0", model.Right},
		{"a *\n", "a 1.0.0 b 1.0.0", model.Right},
		{"b *\na *\nb *\n", "a 1.0.0 b 1.0.0", model.Right},
		{"a * f\n", "a 2.0.0 b 2.0.0 c 1.0.0-rc.2", model.Right},
		{"c =1.0.0-rc.2\n", "c 1.0.0-rc.2", model.Right},
		{"d *\n", "a 2.0.0 b 2.0.0 d 1.0.0", model.Right},
		// Unmet: a root, a need, a feature's need.
		{"a *\n", "", model.Unmet},
		{"e *\n", "", model.Unmet},
		{"a *\n", "a 2.0.0", model.Unmet},
		{"a ^2.0.0\n", "a 1.0.0 b 1.0.0", model.Unmet},
		{"a *\na ^1.0.0\n", "a 2.0.0 b 2.0.0", model.Unmet},
		{"a ^1.0.0\na *\n", "a 2.0.0 b 2.0.0", model.Unmet},
		{"a *\n", "a 2.0.0 b 1.0.0", model.Unmet},
		{"a *\nb <2.0.0\n", "a 2.0.0 b 2.0.0", model.Unmet},
		{"a * f\n", "a 2.0.0 b 2.0.0", model.Unmet},
		{"c *\n", "c 1.0.0-rc.2", model.Unmet},
		{"d * h\n", "a 2.0.0 b 2.0.0 d 1.0.0", model.Unmet},
		// Lacking: a root's feature, a need's.
		{"b * f\n", "b 2.0.0", model.Lacking},
		{"a * f\n", "a 1.0.0 b 1.0.0", model.Lacking},
		{"a * f z\n", "a 2.0.0 b 2.0.0 c 1.0.0-rc.2", model.Lacking},
		{"a * g\n", "a 2.0.0 b 2.0.0 d 1.0.0", model.Lacking},
		// Banned: one way, the other way.
		{"a *\nd *\n", "a 1.0.0 b 1.0.0 d 1.0.0", model.Banned},
		// Unasked.
		{"", "b 1.0.0", model.Unasked},
		{"b *\n", "a 2.0.0 b 2.0.0", model.Unasked},
		{"a *\n", "a 2.0.0 b 2.0.0 c 1.0.0-rc.2", model.Unasked},
		{"a *\n", "a 2.0.0 b 2.0.0 d 1.0.0", model.Unasked},
		// The first that applies.
		{"a * f\ne *\n", "a 1.0.0 b 1.0.0 d 1.0.0", model.Unmet},
		{"a * f\n", "a 1.0.0 b 1.0.0 d 1.0.0", model.Lacking},
		{"a *\n", "a 1.0.0 b 1.0.0 d 1.0.0", model.Banned},
		{"a * z\n", "a 2.0.0 b 2.0.0 d 1.0.0", model.Lacking},
		{"a *\ne *\n", "a 2.0.0 b 2.0.0 d 1.0.0", model.Unmet},
		{"", "a 1.0.0 d 1.0.0", model.Banned},
		// What isn't reached has its bans, but neither its needs nor its features met.
		{"b *\n", "a 1.0.0 b 2.0.0", model.Banned},
		{"b *\n", "a 2.0.0 b 1.0.0", model.Unasked},
	} {
		if got := model.Why(adm, wanted(t, x.roots), chosen(t, adm, x.choice)); got != x.want {
			t.Errorf("roots %q, chosen %q: %d, want %d", x.roots, x.choice, got, x.want)
		}
	}
}

// P16.1: each way of being banned, alone.
func TestWhyBanned(t *testing.T) {
	for _, x := range []struct {
		adm  string
		want int
	}{
		{"entry a 1.0.0\nban b *\nentry b 1.0.0\n", model.Banned},
		{"entry a 1.0.0\nentry b 1.0.0\nban a *\n", model.Banned},
		{"entry a 1.0.0\nban c *\nban b ^1.0.0\nentry b 1.0.0\n", model.Banned},
		{"entry a 1.0.0\nban b <1.0.0|>1.0.0\nentry b 1.0.0\n", model.Right},
		{"entry a 1.0.0\nban b ^1.0.0\nentry b 1.0.0-rc.1\n", model.Right},
		{"entry a 1.0.0\nban b >=1.0.0-a\nentry b 1.0.0-rc.1\n", model.Banned},
		{"entry a 1.0.0\nban c *\nentry b 1.0.0\n", model.Right},
		{"entry a 1.0.0\nban c *\nentry b 1.0.0\nentry c 1.0.0\n", model.Right},
		{"entry a 1.0.0\nentry b 1.0.0\nentry c 1.0.0\nban a *\n", model.Right},
		// What bans itself is banned.
		{"entry a 1.0.0\nban a *\nentry b 1.0.0\n", model.Banned},
		{"entry a 1.0.0\nban a >1.0.0\nentry b 1.0.0\n", model.Right},
		{"entry a 1.0.0\nentry b 1.0.0\nban b =1.0.0\n", model.Banned},
	} {
		adm := listed(t, x.adm)
		if got := model.Why(adm, wanted(t, "a *\nb >=1.0.0-a\n"), []int{0, 1}); got != x.want {
			t.Errorf("%q: %d, want %d", x.adm, got, x.want)
		}
	}
	// The features of a ban that was made by hand count for nothing.
	adm := listed(t, "entry a 1.0.0\nentry b 1.0.0\n")
	adm[0].Bans = []index.Need{need("b", "*", "f")}
	if got := model.Why(adm, wanted(t, "a *\nb *\n"), []int{0, 1}); got != model.Banned {
		t.Errorf("a ban with a feature: %d", got)
	}
}

// P16.1: of a feature that is there twice the first one's needs are met; a range that may be none has nothing.
func TestWhyByHand(t *testing.T) {
	adm := listed(t, "entry a 1.0.0\nentry b 1.0.0\nentry c 1.0.0\n")
	adm[0].Feats = []index.Feat{{Name: "f", Needs: []index.Need{need("b", "*")}}, {Name: "f", Needs: []index.Need{need("c", "*")}}}
	roots := wanted(t, "a * f\n")
	for _, x := range []struct {
		choice []int
		want   int
	}{{[]int{0, 1}, model.Right}, {[]int{0, 2}, model.Unmet}, {[]int{0, 1, 2}, model.Unasked}} {
		if got := model.Why(adm, roots, x.choice); got != x.want {
			t.Errorf("%v: %d, want %d", x.choice, got, x.want)
		}
	}
	if got := model.Why(adm, []index.Need{{Name: "b"}}, []int{1}); got != model.Unmet {
		t.Errorf("a range without alternatives: %d", got)
	}
	adm[1].Bans = []index.Need{{Name: "b"}}
	if got := model.Why(adm, wanted(t, "b *\n"), []int{1}); got != model.Right {
		t.Errorf("a ban without alternatives: %d", got)
	}
}

// P16.1, P16.2: which of two right choices is better.
func TestCompare(t *testing.T) {
	for _, x := range []struct{ name, adm, roots, better, worse string }{
		{"the higher version", "entry a 1.0.0\nentry a 2.0.0\n", "a *\n", "a 2.0.0", "a 1.0.0"},
		{"the first root counts more", "entry a 1.0.0\nentry a 2.0.0\nentry b 1.0.0\nentry b 2.0.0\n", "b *\na *\n", "a 1.0.0 b 2.0.0", "a 2.0.0 b 1.0.0"},
		{"though its name be the lesser one", "entry a 1.0.0\nentry a 2.0.0\nentry b 1.0.0\nentry b 2.0.0\n", "a *\nb *\n", "a 2.0.0 b 1.0.0", "a 1.0.0 b 2.0.0"},
		{"roots ahead of needs", "entry a 1.0.0\nentry a 2.0.0\nentry b 1.0.0\nentry b 2.0.0\nentry c 1.0.0\nneed a *\n", "c *\nb *\n", "a 1.0.0 b 2.0.0 c 1.0.0", "a 2.0.0 b 1.0.0 c 1.0.0"},
		{"needs as they stand", "entry a 1.0.0\nentry a 2.0.0\nentry b 1.0.0\nentry b 2.0.0\nentry c 1.0.0\nneed b *\nneed a *\n", "c *\n", "a 1.0.0 b 2.0.0 c 1.0.0", "a 2.0.0 b 1.0.0 c 1.0.0"},
		{"a name's needs ahead of its features'", "entry a 1.0.0\nentry a 2.0.0\nentry b 1.0.0\nentry b 2.0.0\nentry c 1.0.0\nneed b *\nfeature f\nneed a *\n", "c * f\n", "a 1.0.0 b 2.0.0 c 1.0.0", "a 2.0.0 b 1.0.0 c 1.0.0"},
		{"features as they are met", "entry a 1.0.0\nentry a 2.0.0\nentry b 1.0.0\nentry b 2.0.0\nentry c 1.0.0\nfeature f\nneed a *\nfeature g\nneed b *\n", "c * g f\n", "a 1.0.0 b 2.0.0 c 1.0.0", "a 2.0.0 b 1.0.0 c 1.0.0"},
		{"whatever the better one needs", "entry a 1.0.0\nentry a 2.0.0\nneed b *\nneed c *\nentry b 1.0.0\nentry c 1.0.0\n", "a *\n", "a 2.0.0 b 1.0.0 c 1.0.0", "a 1.0.0"},
		{"one that reaches others", "entry a 1.0.0\nneed c *\nentry a 2.0.0\nneed b *\nentry b 1.0.0\nentry c 1.0.0\nentry c 2.0.0\n", "a *\n", "a 2.0.0 b 1.0.0", "a 1.0.0 c 2.0.0"},
		{"one that reaches them in another order", "entry a 1.0.0\nneed c *\nneed b *\nentry a 2.0.0\nneed b *\nneed c *\nentry b 1.0.0\nentry b 2.0.0\nentry c 1.0.0\nentry c 2.0.0\n", "a *\n", "a 2.0.0 b 1.0.0 c 1.0.0", "a 1.0.0 b 2.0.0 c 2.0.0"},
		{"a release ahead of others", "entry a 2.0.0-rc.1\nentry a 2.0.0\n", "a >=2.0.0-a\n", "a 2.0.0", "a 2.0.0-rc.1"},
	} {
		adm := listed(t, x.adm)
		roots := wanted(t, x.roots)
		a, b := chosen(t, adm, x.better), chosen(t, adm, x.worse)
		if model.Why(adm, roots, a) != model.Right || model.Why(adm, roots, b) != model.Right {
			t.Errorf("%s: not right", x.name)
		}
		got := []int{model.Compare(adm, roots, a, b), model.Compare(adm, roots, b, a), model.Compare(adm, roots, a, a), model.Compare(adm, roots, b, b)}
		if !slices.Equal(got, []int{-1, 1, 0, 0}) {
			t.Errorf("%s: %v", x.name, got)
		}
	}
}

// P16.1: of one version the place counts, which tells the source that stands ahead.
func TestCompareSources(t *testing.T) {
	adm := listed(t, "entry a 1.0.0\nindex far\nentry a 1.0.0\nentry a 1.1.0\n")
	roots := wanted(t, "a *\n")
	for a := range 3 {
		for b := range 3 {
			want := min(max(a-b, -1), 1)
			if got := model.Compare(adm, roots, []int{a}, []int{b}); got != want {
				t.Errorf("%d against %d: %d, want %d", a, b, got, want)
			}
		}
	}
	if got := model.Compare(adm, nil, nil, nil); got != 0 {
		t.Errorf("nothing against nothing: %d", got)
	}
}

// Rule 3: nil and empty lists are one.
func TestNilIsEmpty(t *testing.T) {
	adm := listed(t, "entry a 1.0.0\n")
	hollow := slices.Clone(adm)
	hollow[0].Needs, hollow[0].Feats, hollow[0].Bans = []index.Need{}, []index.Feat{}, []index.Need{}
	roots := []index.Need{{Name: "a", Range: need("a", "*").Range, Feats: []string{}}}
	for _, adm := range [][]view.Cand{adm, hollow} {
		if w := model.Reach(adm, roots, []int{0}); told(w) != "a ;" || model.Why(adm, roots, []int{0}) != model.Right {
			t.Error(told(w))
		}
	}
	for _, adm := range [][]view.Cand{nil, {}} {
		for _, roots := range [][]index.Need{nil, {}} {
			for _, choice := range [][]int{nil, {}} {
				w := model.Reach(adm, roots, choice)
				if len(w.Names) != 0 || len(w.Wants) != 0 || model.Why(adm, roots, choice) != model.Right || model.Compare(adm, roots, choice, nil) != 0 {
					t.Error("something of nothing:", w)
				}
			}
		}
	}
}

// spared is a copy of a list with spare room behind, filled by what isn't to be changed.
func spared[T any](l []T, fill T) []T {
	out := append(make([]T, 0, len(l)+9), l...)
	for i := len(l); i < cap(out); i++ {
		out[:cap(out)][i] = fill
	}
	return out
}

// roomy: candidates all of whose lists have spare room.
func roomy(adm []view.Cand) []view.Cand {
	adm = spared(adm, view.Cand{Source: "spare"})
	for i, x := range adm {
		adm[i].Bans = spared(x.Bans, need("spare", "*"))
		adm[i].Needs = spared(x.Needs, need("spare", "*"))
		adm[i].Feats = spared(x.Feats, index.Feat{Name: "spare"})
		for j, f := range x.Feats {
			adm[i].Feats[j].Needs = spared(f.Needs, need("spare", "*"))
		}
	}
	return adm
}

// whole: a deep copy of all that model looks at, with the spare room.
func whole(adm []view.Cand) []view.Cand {
	adm = slices.Clone(adm[:cap(adm)])
	needs := func(l []index.Need) []index.Need {
		l = slices.Clone(l[:cap(l)])
		for i, n := range l {
			l[i].Feats = slices.Clone(n.Feats[:cap(n.Feats)])
		}
		return l
	}
	for i, x := range adm {
		adm[i].Bans, adm[i].Needs = needs(x.Bans), needs(x.Needs)
		adm[i].Feats = slices.Clone(x.Feats[:cap(x.Feats)])
		for j, f := range adm[i].Feats {
			adm[i].Feats[j].Needs = needs(f.Needs)
		}
	}
	return adm
}

// Rule 4: nothing that is handed in is changed, its spare room neither; answers are new memory. Rule 5: they stay the same.
func TestNewMemory(t *testing.T) {
	adm := roomy(listed(t, shop))
	roots := spared(wanted(t, "a * f\nd *\n"), need("spare", "*", "spare"))
	for i, n := range roots {
		roots[i].Feats = spared(n.Feats, "spare")
	}
	choice, other := spared([]int{0, 2, 5, 6}, -7), spared([]int{1, 3}, -7)
	candsAhead, rootsAhead := whole(adm), slices.Clone(roots[:cap(roots)])
	choiceAhead, otherAhead := slices.Clone(choice[:cap(choice)]), slices.Clone(other[:cap(other)])
	w := model.Reach(adm, roots, choice)
	const want = "a d b c ; a+f"
	if told(w) != want || model.Why(adm, roots, choice) != model.Right || model.Compare(adm, roots, choice, other) != -1 {
		t.Fatal(told(w), model.Why(adm, roots, choice))
	}
	again := model.Reach(adm, roots, choice)
	clear(w.Names[:cap(w.Names)])
	clear(w.Wants[:cap(w.Wants)])
	if told(again) != want || told(model.Reach(adm, roots, choice)) != want {
		t.Error("two answers are one memory")
	}
	model.Why(adm, roots, other)
	model.Compare(adm, roots, other, choice)
	if !reflect.DeepEqual(whole(adm), candsAhead) || !reflect.DeepEqual(roots[:cap(roots)], rootsAhead) {
		t.Error("candidates or roots were changed")
	}
	if !slices.Equal(choice[:cap(choice)], choiceAhead) || !slices.Equal(other[:cap(other)], otherAhead) {
		t.Error("a choice was changed")
	}
}

// Rule 6: nothing makes a call panic, and each ends.
func TestAnything(t *testing.T) {
	odd := spec.Range{Alts: [][]spec.Comp{nil, {{Op: -3}}, {{Op: 99, V: version.Version{N: [3]int{-1, 1 << 40, 0}, Pre: "..-"}}}}}
	wild := []index.Need{{}, {Name: "a", Range: odd, Feats: []string{"", "f", "f", "*"}}, {Name: "", Range: odd, Feats: []string{""}}, need("a", "*", "f")}
	adm := []view.Cand{
		{Entry: index.Entry{Name: "a", Bans: wild, Needs: wild, Feats: []index.Feat{{}, {Name: "f", Needs: wild}, {Name: "f"}, {Name: "*", Needs: wild}}}},
		{},
		{Entry: index.Entry{Name: "a", Version: version.Version{N: [3]int{-1, 0, 0}, Pre: "-"}, Needs: wild}, Source: "main"},
		{Entry: index.Entry{Feats: []index.Feat{{Needs: wild}}}},
	}
	choices := [][]int{nil, {0}, {0, 1}, {1, 2}, {3, 2, 1, 0}, {-1, 4, 0, 0, 1}, {math.MinInt, math.MaxInt}, {0, 2}, {1, 3}}
	for _, roots := range [][]index.Need{nil, wild, wild[:1], wild[3:]} {
		for _, l := range [][]view.Cand{nil, adm, adm[:1], adm[1:]} {
			for _, a := range choices {
				model.Reach(l, roots, a)
				if got := model.Why(l, roots, a); got < model.Right || got > model.Unasked {
					t.Errorf("%v: why %d", a, got)
				}
				for _, b := range choices {
					if got := model.Compare(l, roots, a, b); got < -1 || got > 1 {
						t.Errorf("%v against %v: %d", a, b, got)
					}
				}
			}
		}
	}
}

// P16.1: as much as may be: all indexes full, one long chain of names and features.
func TestMost(t *testing.T) {
	const n = api.MaxIndexes * api.MaxEntries
	var adm []view.Cand
	var choice []int
	label := func(i int) string {
		return "p" + string(rune('a'+i/26%26)) + string(rune('a'+i%26))
	}
	var names []string
	for i := range n {
		adm = append(adm, view.Cand{Entry: index.Entry{
			Name: label(i), Version: v("1.0.0"),
			Needs: []index.Need{need(label((i+1)%n), "*", "f", "g"), need(label((i+n-1)%n), "*")},
			Feats: []index.Feat{{Name: "g", Needs: []index.Need{need(label((i*7+3)%n), "^1.0.0", "f")}}, {Name: "f"}},
		}, Source: "main"})
		choice = append(choice, i)
		names = append(names, label(i))
	}
	w := model.Reach(adm, []index.Need{need(label(0), "*")}, choice)
	if len(w.Names) != n || len(w.Wants) != 2*n || model.Why(adm, []index.Need{need(label(0), "*")}, choice) != model.Right {
		t.Error(len(w.Names), len(w.Wants))
	}
	if slices.Sort(w.Names); !slices.Equal(w.Names, names) {
		t.Error(w.Names)
	}
	if got := model.Why(adm, []index.Need{need(label(0), "*")}, choice[:n-1]); got != model.Unmet {
		t.Error(got)
	}
}
