package index_test

import (
	"reflect"
	"slices"
	"strings"
	"testing"

	"chandler/api"
	"chandler/index"
	"chandler/mark"
	"chandler/spec"
	"chandler/version"
)

// v is the version with that text.
func v(s string) version.Version {
	x, ok := version.Parse(s)
	if !ok {
		panic("no version: " + s)
	}
	return x
}

// rng is the range with that text.
func rng(s string) spec.Range {
	x, ok := spec.Parse(s)
	if !ok {
		panic("no range: " + s)
	}
	return x
}

// need is a need, by its words.
func need(s, r string, feats ...string) index.Need {
	return index.Need{Name: s, Range: rng(r), Feats: feats}
}

// entry is an entry that has nothing more.
func entry(s, at string, d mark.Digest) index.Entry {
	return index.Entry{Name: s, Version: v(at), Digest: d}
}

// times: so many of one thing.
func times[T any](n int, x T) []T { return slices.Repeat([]T{x}, n) }

// bare has nil where an index has an empty list: both are one. It is a deep copy, too.
func bare(x index.Index) index.Index {
	out := index.Index{Source: x.Source}
	for _, e := range x.Entries {
		e.Bans, e.Needs = bareNeeds(e.Bans), bareNeeds(e.Needs)
		var feats []index.Feat
		for _, f := range e.Feats {
			feats = append(feats, index.Feat{Name: f.Name, Needs: bareNeeds(f.Needs)})
		}
		e.Feats = feats
		out.Entries = append(out.Entries, e)
	}
	return out
}

func bareNeeds(l []index.Need) []index.Need {
	var out []index.Need
	for _, n := range l {
		var alts [][]spec.Comp
		for _, alt := range n.Range.Alts {
			alts = append(alts, append([]spec.Comp(nil), alt...))
		}
		out = append(out, index.Need{Name: n.Name, Range: spec.Range{Alts: alts}, Feats: append([]string(nil), n.Feats...)})
	}
	return out
}

// same: are two indexes alike?
func same(a, b index.Index) bool { return reflect.DeepEqual(bare(a), bare(b)) }

// rich: an index with something of each kind; its entries stand in order.
func rich() index.Index {
	return index.Index{Source: "main", Entries: []index.Entry{
		{
			Name: "@lib/core-x", Version: v("1.2.0-rc.2"), Digest: 0xab, Labels: 5, Yanked: true,
			Bans:  []index.Need{need("b", "<2.0.0|>=3.0.0-a,<4.0.0"), need("@lib/old", "*")},
			Needs: []index.Need{need("b", "^0.2.1"), need("@lib/c", "*", "tls", "x-1"), need("b", "!=0.2.3", "z")},
			Feats: []index.Feat{
				{Name: "tls", Needs: []index.Need{need("ssl", "~1.2.3"), need("@lib/core-x", "=1.2.0-rc.2", "x")}},
				{Name: "x"},
				{Name: "a-0", Needs: []index.Need{need("q", "<=1.0.0", "a", "b", "c", "d")}},
			},
		},
		{Name: "a", Version: v("1.0.0"), Digest: 1<<64 - 1, Labels: mark.All},
		{Name: "b", Version: v("0.0.0"), Feats: []index.Feat{{Name: "only"}}},
		{Name: "b", Version: v("0.0.1"), Yanked: true, Needs: []index.Need{need("a", ">1.0.0")}},
		{Name: "b", Version: v("999999.0.10"), Labels: 1, Bans: []index.Need{need("b", "*")}},
	}}
}

// richText: its text.
const richText = `index main
entry @lib/core-x 1.2.0-rc.2 00000000000000ab ac yanked
ban b <2.0.0|>=3.0.0-a,<4.0.0
ban @lib/old *
need b ^0.2.1
need @lib/c * tls x-1
need b !=0.2.3 z
feature tls
need ssl ~1.2.3
need @lib/core-x =1.2.0-rc.2 x
feature x
feature a-0
need q <=1.0.0 a b c d
entry a 1.0.0 ffffffffffffffff abcdefghijklmnopqrstuvwxyz
entry b 0.0.0 0000000000000000 -
feature only
entry b 0.0.1 0000000000000000 - yanked
need a >1.0.0
entry b 999999.0.10 0000000000000000 a
ban b *
`

// P7.1: the place of a feature, the first one of its name.
func TestFeat(t *testing.T) {
	x := index.Entry{Feats: []index.Feat{{Name: "b"}, {Name: "a", Needs: []index.Need{need("c", "*")}}, {Name: "b"}, {Name: ""}, {Name: "a"}, {Name: "Z"}}}
	for s, want := range map[string]int{"b": 0, "a": 1, "": 3, "Z": 5, "c": -1, "ab": -1, "A": -1, "z": -1, "a ": -1} {
		if got := x.Feat(s); got != want {
			t.Errorf("%q: %d, want %d", s, got, want)
		}
	}
	for _, s := range []string{"", "a"} {
		if got := (index.Entry{Name: "a", Needs: []index.Need{need("a", "*", "a")}}).Feat(s); got != -1 {
			t.Errorf("%q is at %d of none", s, got)
		}
	}
}

// P7.1: by names, byte by byte; of one name the lower version first.
func TestSorted(t *testing.T) {
	rising := [][2]string{
		{"@a/z", "1.0.0"}, {"@lib/a", "9.0.0"}, {"@lib/a-b", "1.0.0"}, {"@lib/b", "1.0.0"},
		{"a", "0.0.1"}, {"a", "0.9.0"}, {"a", "0.10.0"}, {"a", "1.2.0-rc"}, {"a", "1.2.0-rc.2"}, {"a", "1.2.0-rc.10"}, {"a", "1.2.0"}, {"a", "2.0.0"}, {"a", "10.0.0"},
		{"a-b", "3.0.0"}, {"a-b", "3.0.1"}, {"a0", "2.0.0"}, {"ab", "1.0.0"}, {"abc", "0.0.0"}, {"b", "0.0.0"},
	}
	var want []index.Entry
	for i, x := range rising {
		want = append(want, entry(x[0], x[1], mark.Digest(i)))
	}
	// Every step that has no divisor with their number goes through all of them.
	for _, step := range []int{1, 2, 5, 7, 11, 18} {
		x := index.Index{Source: "s"}
		for i := range want {
			x.Entries = append(x.Entries, want[i*step%len(want)])
		}
		before := slices.Clone(x.Entries)
		if got := x.Sorted(); got.Source != "s" || !reflect.DeepEqual(got.Entries, want) {
			t.Errorf("by %d: %v", step, got)
		}
		if !reflect.DeepEqual(x.Entries, before) {
			t.Errorf("by %d: what was handed in is changed: %v", step, x.Entries)
		}
	}
}

// P7.1: entries that are the same in name and version stand as they stood, however many they are, and whatever else they have.
func TestSortedStable(t *testing.T) {
	const n = 500
	x := index.Index{}
	for i := range n {
		e := entry([]string{"b", "a", "c"}[i%3], []string{"2.0.0", "1.0.0"}[i%2], mark.Digest(n-i))
		e.Yanked, e.Labels = i%5 == 0, mark.Labels(n-i)
		x.Entries = append(x.Entries, e)
	}
	got := x.Sorted().Entries
	var want []index.Entry
	for _, s := range []string{"a", "b", "c"} {
		for _, at := range []string{"1.0.0", "2.0.0"} {
			for _, e := range x.Entries {
				if e.Name == s && e.Version == v(at) {
					want = append(want, e)
				}
			}
		}
	}
	if !reflect.DeepEqual(got, want) {
		t.Errorf("%d of %d entries", len(got), n)
	}
}

// Rules 3, 4 and 6: an index without entries; new memory; spare room; what may not be one.
func TestSortedRules(t *testing.T) {
	for _, x := range []index.Index{{}, {Entries: []index.Entry{}}, {Source: "main"}, {Source: "No plain name", Entries: []index.Entry{{}}}} {
		if got := x.Sorted(); !same(got, x) {
			t.Errorf("%v: %v", x, got)
		}
	}
	room := []index.Entry{entry("b", "1.0.0", 1), entry("a", "1.0.0", 2), entry("spare", "1.0.0", 3)}
	x := index.Index{Source: "main", Entries: room[:2]}
	got := x.Sorted()
	_ = append(got.Entries, entry("z", "1.0.0", 4))
	got.Entries[0].Name = "changed"
	if room[0].Name != "b" || room[1].Name != "a" || room[2].Name != "spare" {
		t.Error("what was handed in is changed:", room)
	}
	odd := index.Index{Entries: []index.Entry{
		{Name: "a", Version: version.Version{N: [3]int{-1, 0, 0}, Pre: "....."}}, {Name: "a", Version: version.Version{N: [3]int{-1, 0, 0}, Pre: "é"}},
		{Name: "\xff"}, {Name: "a", Version: version.Version{Pre: strings.Repeat("a.", 100)}}, {Name: "", Bans: times(100, index.Need{})},
	}}
	if got := odd.Sorted(); len(got.Entries) != 5 || got.Entries[0].Name != "" || got.Entries[4].Name != "\xff" {
		t.Error(got)
	}
}

// P7.1: what it is, word by word: Example 1.
func TestExample(t *testing.T) {
	got, f := index.Parse("index main\nentry a 1.0.0 00000000000000aa -\nneed b *\n")
	want := index.Index{Source: "main", Entries: []index.Entry{{
		Name: "a", Version: version.Version{N: [3]int{1, 0, 0}}, Digest: 170,
		Needs: []index.Need{{Name: "b", Range: spec.Range{Alts: [][]spec.Comp{{{Op: spec.Any}}}}}},
	}}}
	if f != (api.Fault{}) || !same(got, want) {
		t.Errorf("%+v, %v", got, f)
	}
}
