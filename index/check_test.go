package index_test

import (
	"reflect"
	"strconv"
	"strings"
	"testing"

	"chandler/api"
	"chandler/index"
	"chandler/mark"
	"chandler/spec"
	"chandler/version"
)

// num is a text with a number behind.
func num(s string, n int) string { return s + strconv.Itoa(n) }

// needs: so many needs with so many features each.
func needs(n, feats int) []index.Need {
	var l []index.Need
	for i := range n {
		x := need(num("@lib/n", i), "^1.0.0|*")
		for j := range feats {
			x.Feats = append(x.Feats, num("g", j))
		}
		l = append(l, x)
	}
	return l
}

// full: an entry that has as much as it may have.
func full() index.Entry {
	x := index.Entry{Name: "@lib/a", Version: v("1.0.0-rc.1"), Digest: 7, Labels: mark.All, Bans: needs(api.MaxBans, 0), Needs: needs(api.MaxNeeds, api.MaxFeats)}
	for i := range api.MaxFeats {
		x.Feats = append(x.Feats, index.Feat{Name: num("f", i), Needs: needs(api.MaxNeeds, api.MaxFeats)})
	}
	return x
}

// odd things, none of which may be.
var (
	oddNames    = []string{"", "-", "A", "a ", " a", "a\n", "a_b", "a-", "-a", "0a", "@lib", "@lib/", "@/a", "lib/a", "@lib/a/b", "@lib/*", "*", "abcdefghijklmnopqrstu", "@abcdefghijklmnopqrstu/a", "ä"}
	oddVersions = []version.Version{{N: [3]int{-1, 0, 0}}, {N: [3]int{0, 1000000, 0}}, {N: [3]int{0, 0, -5}}, {Pre: "A"}, {Pre: "a..b"}, {Pre: "a.b.c.d.e"}, {Pre: "01"}, {Pre: "a b"}, {Pre: "abcdefghi"}}
	oddRanges   = []spec.Range{{}, {Alts: [][]spec.Comp{}}, {Alts: [][]spec.Comp{{}}}, {Alts: [][]spec.Comp{{{Op: 9}}}}, {Alts: [][]spec.Comp{{{Op: -1}}}}, {Alts: [][]spec.Comp{{{Op: spec.Any, V: version.Version{Pre: "a"}}}}}, {Alts: [][]spec.Comp{{{V: version.Version{Pre: "A"}}}}}, {Alts: times(5, []spec.Comp{{Op: spec.Any}})}}
	oddLabels   = []mark.Labels{1 << 26, 1 << 31, 1<<27 | 1, 1<<32 - 1}
)

// P7.1: what may be a need, with how many features.
func TestCheckNeed(t *testing.T) {
	abcd := need("a", "*", "a", "b", "c", "d")
	for _, c := range []struct {
		n    index.Need
		most int
		want api.Errno
	}{
		{need("a", "*"), 0, api.OK},
		{need("@lib/core-x", "=1.0.0,!=2.0.0|^3.0.0"), 0, api.OK},
		{need("a", "*"), 1, api.OK},
		{need("a", "*"), api.MaxFeats, api.OK},
		{need("a", "*", "f"), 1, api.OK},
		{need("a", "*", "a"), 2, api.OK},
		{abcd, 4, api.OK},
		{abcd, 5, api.OK},
		{abcd, 1 << 40, api.OK},
		{need("a", "*", "f"), 0, api.Bound},
		{abcd, 3, api.Bound},
		{abcd, 0, api.Bound},
		{abcd, -1, api.Bound},
		{need("a", "*", "f"), -1 << 63, api.Bound},
		// No features are more than -1, as the words say.
		{need("a", "*"), -1, api.Bound},
		{need("a", "*", "f", "f"), 2, api.Twice},
		{need("a", "*", "f", "g", "h", "f"), 4, api.Twice},
		{need("a", "*", "f", "g", "g"), 4, api.Twice},
		{need("a", "*", "f", "f"), 1, api.Bound},
		{need("a", "*", "f", "F"), 1, api.Bound},
		{need("a", "*", "f", "F", "f"), 3, api.Syntax},
		{need("a", "*", "f", "f", "F"), 3, api.Twice},
		{need("a", "*", "F", "F"), 3, api.Syntax},
		{index.Need{}, 0, api.Syntax},
		{index.Need{}, -1, api.Syntax},
		{index.Need{Name: "a", Feats: []string{"f", "f"}}, 0, api.Syntax},
		{index.Need{Name: "A", Range: rng("*"), Feats: []string{"f", "f"}}, 0, api.Syntax},
	} {
		if got := index.CheckNeed(c.n, c.most); got != c.want {
			t.Errorf("%+v, at most %d: %d, want %d", c.n, c.most, got, c.want)
		}
	}
	for _, s := range oddNames {
		if got := index.CheckNeed(need(s, "*"), 4); got != api.Syntax {
			t.Errorf("name %q: %d", s, got)
		}
		if got := index.CheckNeed(need("a", "*", "x", s), 4); got != api.Syntax {
			t.Errorf("feature %q: %d", s, got)
		}
	}
	if got := index.CheckNeed(need("a", "*", "@lib/a"), 4); got != api.Syntax {
		t.Error("a feature with a scope:", got)
	}
	for _, r := range oddRanges {
		if got := index.CheckNeed(index.Need{Name: "a", Range: r}, 4); got != api.Syntax {
			t.Errorf("range %v: %d", r, got)
		}
	}
}

// flaw is something that an entry may not be, and what is told of it.
type flaw struct {
	what string
	code api.Errno
	by   func(x *index.Entry)
}

// needFlaws: what a list of needs may not be, in the order in which it is told. most: how many features each may have.
func needFlaws(what string, most int, list func(x *index.Entry) *[]index.Need) []flaw {
	at := func(i int, by func(n *index.Need)) func(x *index.Entry) {
		return func(x *index.Entry) { by(&(*list(x))[i]) }
	}
	feats := func(l ...string) func(n *index.Need) {
		return func(n *index.Need) { n.Feats = l }
	}
	var many []string
	for i := range most + 1 {
		many = append(many, num("h", i))
	}
	l := []flaw{
		{what + ": too many", api.Bound, func(x *index.Entry) { *list(x) = append(*list(x), need("b", "*")) }},
		{what + " 0: name", api.Syntax, at(0, func(n *index.Need) { n.Name = "A" })},
		{what + " 0: too many features", api.Bound, at(0, feats(many...))},
		{what + " 1: range", api.Syntax, at(1, func(n *index.Need) { n.Range = spec.Range{} })},
	}
	if most > 0 {
		l = append(l,
			flaw{what + " 2: feature", api.Syntax, at(2, feats("a", "b", "@lib/c", "b"))},
			flaw{what + " 2: a feature twice", api.Twice, at(2, feats("a", "b", "a", "C"))})
	}
	return append(l, flaw{what + " 3: too many features", api.Bound, at(3, feats(many...))})
}

// flaws: what an entry may not be, in the order in which it is told.
func flaws() []flaw {
	l := []flaw{
		{"name", api.Syntax, func(x *index.Entry) { x.Name = "a-" }},
		{"version", api.Syntax, func(x *index.Entry) { x.Version.N[1] = 1000000 }},
		{"labels", api.Syntax, func(x *index.Entry) { x.Labels |= 1 << 26 }},
	}
	l = append(l, needFlaws("bans", 0, func(x *index.Entry) *[]index.Need { return &x.Bans })...)
	l = append(l, needFlaws("needs", api.MaxFeats, func(x *index.Entry) *[]index.Need { return &x.Needs })...)
	l = append(l, flaw{"too many features", api.Bound, func(x *index.Entry) { x.Feats = append(x.Feats, index.Feat{Name: "g"}) }})
	for i := range api.MaxFeats {
		l = append(l, flaw{num("name of feature ", i), api.Syntax, func(x *index.Entry) { x.Feats[i].Name = "@lib/f" }})
		if i > 0 {
			l = append(l, flaw{num("name twice: feature ", i), api.Twice, func(x *index.Entry) { x.Feats[i].Name = x.Feats[i-1].Name }})
		}
		l = append(l, needFlaws(num("needs of feature ", i), api.MaxFeats, func(x *index.Entry) *[]index.Need { return &x.Feats[i].Needs })...)
	}
	return l
}

// P7.1: what may not be an entry: of two flaws the first is told.
func TestCheckEntry(t *testing.T) {
	if got := full().Check(); got != api.OK {
		t.Error("a full entry:", got)
	}
	l := flaws()
	for i, a := range l {
		x := full()
		a.by(&x)
		if got := x.Check(); got != a.code {
			t.Errorf("%s: %d, want %d", a.what, got, a.code)
		}
		for _, b := range l[i+1:] {
			x := full()
			// The later one ahead: it must not undo the first.
			b.by(&x)
			a.by(&x)
			if got := x.Check(); got != a.code {
				t.Errorf("%s, and %s: %d, want %d", a.what, b.what, got, a.code)
			}
		}
	}
}

// P7.1: odd words, each alone; what else may be.
func TestCheckEntryWords(t *testing.T) {
	check := func(what any, want api.Errno, by func(x *index.Entry)) {
		t.Helper()
		x := entry("a", "1.0.0", 0)
		by(&x)
		if got := x.Check(); got != want {
			t.Errorf("%v: %d, want %d", what, got, want)
		}
	}
	for _, s := range oddNames {
		check(s, api.Syntax, func(x *index.Entry) { x.Name = s })
		check(s, api.Syntax, func(x *index.Entry) { x.Feats = []index.Feat{{Name: s}} })
	}
	check("a feature with a scope", api.Syntax, func(x *index.Entry) { x.Feats = []index.Feat{{Name: "@lib/a"}} })
	for _, at := range oddVersions {
		check(at, api.Syntax, func(x *index.Entry) { x.Version = at })
	}
	for _, l := range oddLabels {
		check(l, api.Syntax, func(x *index.Entry) { x.Labels = l })
	}
	check("nothing", api.Syntax, func(x *index.Entry) { *x = index.Entry{} })
	check("all", api.OK, func(x *index.Entry) { x.Labels, x.Digest, x.Yanked = mark.All, 1<<64-1, true })
	check("empty lists", api.OK, func(x *index.Entry) { x.Bans, x.Needs, x.Feats = []index.Need{}, []index.Need{}, []index.Feat{} })
	check("itself", api.OK, func(x *index.Entry) { x.Bans, x.Needs = needs(1, 0), []index.Need{need("a", "*"), need("a", "*")} })
	check("bans twice", api.OK, func(x *index.Entry) { x.Bans = times(4, need("b", "*")) })
	check("a ban's feature", api.Bound, func(x *index.Entry) { x.Bans = []index.Need{need("b", "*", "f")} })
	check("its own feature", api.OK, func(x *index.Entry) {
		x.Feats = []index.Feat{{Name: "f", Needs: []index.Need{need("a", "*", "f")}}}
	})
	check("a feature that is there, behind others", api.Twice, func(x *index.Entry) { x.Feats = []index.Feat{{Name: "f"}, {Name: "g"}, {Name: "f"}} })
}

// P7.1: what may be an index, and in which order it is told what may not.
func TestCheckIndex(t *testing.T) {
	a, b := entry("a", "1.0.0", 1), entry("b", "1.0.0", 2)
	bad := entry("A", "1.0.0", 3)
	fat := entry("c", "1.0.0", 4)
	fat.Bans = needs(5, 0)
	twin := entry("d", "1.0.0", 5)
	twin.Feats = []index.Feat{{Name: "f"}, {Name: "f"}}
	var many []index.Entry
	for i := range api.MaxEntries + 1 {
		many = append(many, entry("a", num("1.0.", i), 0))
	}
	for what, c := range map[string]struct {
		source string
		l      []index.Entry
		want   api.Errno
	}{
		"no entry":                     {"main", nil, api.OK},
		"an empty list":                {"main", []index.Entry{}, api.OK},
		"two":                          {"x-1", []index.Entry{a, b}, api.OK},
		"other versions":               {"main", []index.Entry{a, entry("a", "1.0.0-a", 1), entry("a", "1.0.1", 1), entry("a", "0.1.0", 1)}, api.OK},
		"all":                          {"main", many[:api.MaxEntries], api.OK},
		"one too many":                 {"main", many, api.Bound},
		"too many, a bad one first":    {"main", append([]index.Entry{bad}, many[:api.MaxEntries]...), api.Bound},
		"too many, twice":              {"main", times(api.MaxEntries+1, a), api.Bound},
		"no source, too many":          {"", many, api.Syntax},
		"a scope, too many":            {"@a/main", many, api.Syntax},
		"no source":                    {"", nil, api.Syntax},
		"no source, too fat":           {"Main", []index.Entry{fat}, api.Syntax},
		"too fat":                      {"main", []index.Entry{fat}, api.Bound},
		"bad":                          {"main", []index.Entry{a, bad}, api.Syntax},
		"a feature twice":              {"main", []index.Entry{a, twin}, api.Twice},
		"bad, then too fat":            {"main", []index.Entry{bad, fat}, api.Syntax},
		"too fat, then bad":            {"main", []index.Entry{fat, bad}, api.Bound},
		"twice":                        {"main", []index.Entry{a, a}, api.Twice},
		"twice, of another digest":     {"main", []index.Entry{a, b, entry("a", "1.0.0", 9)}, api.Twice},
		"twice, then bad":              {"main", []index.Entry{a, a, bad}, api.Twice},
		"bad, then twice":              {"main", []index.Entry{bad, a, a}, api.Syntax},
		"bad twice":                    {"main", []index.Entry{bad, bad}, api.Syntax},
		"too fat, of one that's there": {"main", []index.Entry{entry("c", "1.0.0", 1), fat}, api.Bound},
	} {
		x := index.Index{Source: c.source, Entries: c.l}
		got := x.Check()
		if got != c.want {
			t.Errorf("%s: %d, want %d", what, got, c.want)
		}
		if text, e := x.Text(); c.want != api.OK && (text != "" || e != c.want) {
			t.Errorf("%s: its text is %.60q, %d; want %d", what, text, e, c.want)
		}
	}
	for _, s := range oddNames {
		if got := (index.Index{Source: s}).Check(); got != api.Syntax {
			t.Errorf("source %q: %d", s, got)
		}
	}
	if got := (index.Index{Source: strings.Repeat("a", 20), Entries: []index.Entry{full()}}).Check(); got != api.OK {
		t.Error("a full entry:", got)
	}
}

// Rule 4: what is handed in isn't changed, the spare room neither.
func TestCheckChangesNothing(t *testing.T) {
	room := []index.Entry{full(), entry("b", "1.0.0", 1), entry("a", "1.0.0", 2), entry("spare", "1.0.0", 3)}
	x := index.Index{Source: "main", Entries: room[:3]}
	before := bare(index.Index{Entries: room})
	if e := x.Check(); e != api.OK {
		t.Error(e)
	}
	if _, e := x.Text(); e != api.OK {
		t.Error(e)
	}
	x.Sorted()
	room[0].Check()
	room[0].Feat("f3")
	index.CheckNeed(room[0].Needs[0], 4)
	if !reflect.DeepEqual(bare(index.Index{Entries: room}), before) {
		t.Error(room)
	}
}
