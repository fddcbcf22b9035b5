package trust_test

import (
	"math"
	"math/rand/v2"
	"slices"
	"testing"

	"chandler/api"
	"chandler/name"
	"chandler/policy"
	"chandler/trust"
)

// numbers: in their row, the least first; those of one number are one rank.
func numbers() [][]float64 {
	return [][]float64{
		{math.NaN(), math.Float64frombits(0xfff0000000000001)},
		{math.Inf(-1)},
		{-2},
		{math.Copysign(0, -1)},
		{0},
		{0.5},
		{math.Inf(1)},
	}
}

// dice throw policies.
type dice struct{ *rand.Rand }

func one[T any](d dice, l ...T) T { return l[d.IntN(len(l))] }

// some: so many of a list at most, each once, in any order.
func some[T any](d dice, most int, l ...T) []T {
	l = slices.Clone(l)
	d.Shuffle(len(l), func(i, j int) { l[i], l[j] = l[j], l[i] })
	return l[:d.IntN(min(most, len(l))+1)]
}

// policy: one that may be one, and its numbers' places in their row.
func (d dice) policy() (policy.Policy, map[string]int) {
	var p policy.Policy
	ranks := map[string]int{}
	names := some(d, 8, "a", "b", "b-c", "b1", "main", "z", "a1", "x")
	for _, s := range names {
		ranks[s] = d.IntN(7)
		p.Sources = append(p.Sources, policy.Source{Name: s, Score: one(d, numbers()[ranks[s]]...), Open: d.IntN(2) == 0})
	}
	for _, glob := range some(d, 4, globs()...) {
		p.Claims = append(p.Claims, policy.Claim{Glob: glob, Kind: d.IntN(3), Sources: some(d, 8, names...)})
	}
	return p, ranks
}

func globs() []string {
	return []string{"*", "a", "a*", "ab", "ab*", "a-b*", "b", "@s/*", "@s/a", "@s/a*", "@s/ab", "@t/*", "@t/a-*", "abc*", "abc", "c*", "a-*", "@s/ab*", "z*", "@t/a"}
}

// texts: names of all sorts, and what is none.
func texts() []string {
	return []string{"a", "ab", "abc", "abcd", "a-b", "a-bc", "b", "bc", "c1", "z", "@s/a", "@s/ab", "@s/abc", "@s/b", "@t/a", "@t/a-b", "@u/a", "", "*", "a*", "A", "@s/", "@s/*", "a-", "-a", "@s", "@/a", "1a"}
}

// deciding: the claim of all that fit the name that no other one says more than; nil: there is none.
func deciding(p policy.Policy, s string) *policy.Claim {
	var best *policy.Claim
	for i := range p.Claims {
		c := &p.Claims[i]
		if name.Match(c.Glob, s) && (best == nil || name.Weight(c.Glob) > name.Weight(best.Glob)) {
			best = c
		}
	}
	return best
}

// by: does a claim trust a source of the policy?
func by(c policy.Claim, s string) bool {
	return slices.Contains(c.Sources, s) != (c.Kind == policy.Deny)
}

// may: may a source of the policy have a name?
func may(p policy.Policy, s string, source policy.Source) bool {
	if !name.Check(s) {
		return false
	}
	if c := deciding(p, s); c != nil {
		return by(*c, source.Name)
	}
	return source.Open
}

// checkName: what is said of a name, told source by source.
func checkName(t *testing.T, p policy.Policy, s string) {
	t.Helper()
	c := deciding(p, s)
	at := trust.Claim(p, s)
	if (c == nil) != (at == -1) || c != nil && c != &p.Claims[at] {
		t.Fatalf("%+v: Claim of %q is %d", p, s, at)
	}
	if got := trust.First(p, s); got != (c != nil && c.Kind == policy.First) {
		t.Fatalf("%+v: First of %q is %v", p, s, got)
	}
	var want []string
	if c != nil && c.Kind == policy.First {
		want = c.Sources
	} else {
		for _, source := range p.Sources {
			if may(p, s, source) {
				want = append(want, source.Name)
			}
		}
	}
	if got := trust.Trusted(p, s); !slices.Equal(got, want) {
		t.Fatalf("%+v: %q is trusted to %q, want %q", p, s, got, want)
	}
	for _, source := range p.Sources {
		if got := trust.Trusts(p, s, source.Name); got != may(p, s, source) {
			t.Fatalf("%+v: %q is trusted to %q: %v", p, s, source.Name, got)
		}
	}
	if trust.Trusts(p, s, "none") || trust.Trusts(p, s, "") {
		t.Fatalf("%+v: %q is trusted to one that isn't there", p, s)
	}
}

// checkStrange: who is strange, and what may they have (P10.3)?
func checkStrange(t *testing.T, p policy.Policy) {
	t.Helper()
	var want []string
	for _, source := range p.Sources {
		if !slices.ContainsFunc(p.Claims, func(c policy.Claim) bool { return by(c, source.Name) }) {
			want = append(want, source.Name)
		}
	}
	got := trust.Strange(p)
	if !slices.Equal(got, want) {
		t.Fatalf("%+v: %q are strange, want %q", p, got, want)
	}
	for _, s := range texts() {
		for _, source := range p.Sources {
			free := name.Check(s) && trust.Claim(p, s) == -1 && source.Open
			if slices.Contains(got, source.Name) && trust.Trusts(p, s, source.Name) != free {
				t.Fatalf("%+v: strange %q and %q", p, source.Name, s)
			}
		}
	}
}

// checkOrder: each source is held against each by its rank (P10.2).
func checkOrder(t *testing.T, p policy.Policy, ranks map[string]int) {
	t.Helper()
	l := []string{"", "a", "b", "b-c", "b1", "main", "z", "a1", "x", "B", "none"}
	for _, a := range l {
		for _, b := range l {
			x, y := 0, 0
			if i, ok := ranks[a]; ok {
				x = 1 + i
			}
			if i, ok := ranks[b]; ok {
				y = 1 + i
			}
			want := 0
			if x > y || x == y && a < b {
				want = -1
			} else if a != b {
				want = 1
			}
			if got := trust.Compare(p, a, b); got != want {
				t.Fatalf("%+v: Compare(%q, %q) is %d, want %d", p, a, b, got, want)
			}
		}
	}
}

// P10.1, P10.2, P10.3: random policies.
func TestRandomPolicies(t *testing.T) {
	d := dice{rand.New(rand.NewPCG(10, 1))}
	for range 2000 {
		p, ranks := d.policy()
		if e := p.Check(); e != api.OK {
			t.Fatalf("%+v: %d", p, e)
		}
		for _, s := range texts() {
			checkName(t, p, s)
		}
		checkStrange(t, p)
		checkOrder(t, p, ranks)
	}
}
