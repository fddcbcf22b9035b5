package policy_test

import (
	"math"
	"reflect"
	"slices"
	"strconv"
	"testing"

	"chandler/mark"
	"chandler/policy"
	"chandler/version"
)

// v is the version with that text.
func v(s string) version.Version {
	x, ok := version.Parse(s)
	if !ok {
		panic("no version: " + s)
	}
	return x
}

// num is a text with a number behind.
func num(s string, n int) string { return s + strconv.Itoa(n) }

// times: so many of one thing.
func times[T any](n int, x T) []T { return slices.Repeat([]T{x}, n) }

// held is a source with its score's bits, as no number is like itself.
type held struct {
	name string
	bits uint64
	open bool
}

// bare is a policy without what doesn't count: lists that are nil or empty, and the bits of what is no number. It is a deep copy, too.
func bare(p policy.Policy) (l []held, out policy.Policy) {
	for _, s := range p.Sources {
		bits := math.Float64bits(s.Score)
		if math.IsNaN(s.Score) {
			bits = math.Float64bits(math.NaN())
		}
		l = append(l, held{s.Name, bits, s.Open})
	}
	for _, c := range p.Claims {
		out.Claims = append(out.Claims, policy.Claim{Glob: c.Glob, Kind: c.Kind, Sources: append([]string(nil), c.Sources...)})
	}
	for _, h := range p.Hashes {
		out.Hashes = append(out.Hashes, policy.Hash{Name: h.Name, Digests: append([]mark.Digest(nil), h.Digests...)})
	}
	out.Pins = append([]policy.Pin(nil), p.Pins...)
	out.Tenants = append([]policy.Tenant(nil), p.Tenants...)
	return l, out
}

// same: are two policies alike?
func same(a, b policy.Policy) bool {
	x, p := bare(a)
	y, q := bare(b)
	return reflect.DeepEqual(x, y) && reflect.DeepEqual(p, q)
}

// nothing: is it the policy that stands beside a fault?
func nothing(p policy.Policy) bool { return reflect.DeepEqual(p, policy.Policy{}) }

// rich: a policy with something of each kind.
func rich() policy.Policy {
	return policy.Policy{
		Sources: []policy.Source{
			{Name: "main", Score: 1, Open: true},
			{Name: "far-9", Score: math.Copysign(0, -1)},
			{Name: "x", Score: math.NaN(), Open: true},
			{Name: "main2", Score: math.Inf(-1)},
		},
		Claims: []policy.Claim{
			{Glob: "@lib/*", Kind: policy.Allow, Sources: []string{"main"}},
			{Glob: "*", Kind: policy.First, Sources: []string{"x", "main", "far-9"}},
			{Glob: "a", Kind: policy.Deny},
			{Glob: "@lib/core-*", Kind: policy.Deny, Sources: []string{"far-9", "main2"}},
			{Glob: "@lib/core-x", Kind: policy.Allow},
		},
		Pins: []policy.Pin{{Name: "b", Version: v("1.2.0-rc.2")}, {Name: "@lib/a", Version: v("0.0.0")}},
		Hashes: []policy.Hash{
			{Name: "b", Digests: []mark.Digest{0xab, 0}},
			{Name: "@lib/a", Digests: []mark.Digest{1<<64 - 1, 3, 2, 1}},
			{Name: "main", Digests: []mark.Digest{7}},
		},
		Tenants: []policy.Tenant{{Name: "main", Labels: 5}, {Name: "nobody"}, {Name: "all", Labels: mark.All}},
	}
}

// richText: its text.
const richText = `policy
source main 3ff0000000000000 open
source far-9 8000000000000000 closed
source x 7ff8000000000001 open
source main2 fff0000000000000 closed
claim @lib/* allow main
claim * first x main far-9
claim a deny
claim @lib/core-* deny far-9 main2
claim @lib/core-x allow
pin b 1.2.0-rc.2
pin @lib/a 0.0.0
hash b 00000000000000ab 0000000000000000
hash @lib/a ffffffffffffffff 0000000000000003 0000000000000002 0000000000000001
hash main 0000000000000007
tenant main ac
tenant nobody -
tenant all abcdefghijklmnopqrstuvwxyz
`

// P8.1: the place of a source.
func TestSource(t *testing.T) {
	p := rich()
	p.Sources = append(p.Sources, policy.Source{Name: "x"}, policy.Source{Name: ""}, policy.Source{Name: "Odd"}, policy.Source{Name: ""})
	for s, want := range map[string]int{"main": 0, "far-9": 1, "x": 2, "main2": 3, "": 5, "Odd": 6, "odd": -1, "mai": -1, "main22": -1, "a": -1, "b": -1, "*": -1, "nobody": -1, "@lib/a": -1, "Main": -1, "main ": -1} {
		if got := p.Source(s); got != want {
			t.Errorf("%q: %d, want %d", s, got, want)
		}
	}
}

// P8.1: a name's version.
func TestPin(t *testing.T) {
	p := rich()
	p.Pins = append(p.Pins, policy.Pin{Name: "b", Version: v("3.0.0")}, policy.Pin{Name: "", Version: v("4.0.0")}, policy.Pin{Name: "", Version: v("5.0.0")}, policy.Pin{Name: "*", Version: version.Version{Pre: "Odd"}})
	for s, want := range map[string]version.Version{"b": v("1.2.0-rc.2"), "@lib/a": v("0.0.0"), "": v("4.0.0"), "*": {Pre: "Odd"}} {
		if got, ok := p.Pin(s); got != want || !ok {
			t.Errorf("%q: %v, %v; want %v", s, got, ok, want)
		}
	}
	for _, s := range []string{"a", "@lib/b", "@lib/", "c", "main", "B", "bb", "b ", "nobody"} {
		if got, ok := p.Pin(s); got != (version.Version{}) || ok {
			t.Errorf("%q: %v, %v", s, got, ok)
		}
	}
}

// P8.1: what the first allowlist of a name has; where there is none, anything may be.
func TestHash(t *testing.T) {
	p := rich()
	p.Hashes = append(p.Hashes, policy.Hash{Name: "b", Digests: []mark.Digest{99}}, policy.Hash{Name: "none"}, policy.Hash{Name: "", Digests: []mark.Digest{1, 1}})
	for _, c := range []struct {
		name string
		d    mark.Digest
		want bool
	}{
		{"b", 0xab, true}, {"b", 0, true}, {"b", 1, false}, {"b", 99, false}, {"b", 1<<64 - 1, false},
		{"@lib/a", 1<<64 - 1, true}, {"@lib/a", 3, true}, {"@lib/a", 2, true}, {"@lib/a", 1, true}, {"@lib/a", 0, false}, {"@lib/a", 4, false}, {"@lib/a", 1<<64 - 2, false},
		{"main", 7, true}, {"main", 0, false}, {"main", 6, false}, {"main", 7 << 32, false},
		{"none", 0, false}, {"none", 7, false}, {"", 1, true}, {"", 0, false},
		{"a", 0, true}, {"a", 99, true}, {"@lib/b", 1, true}, {"nobody", 0, true}, {"B", 1, true}, {"*", 1, true}, {"bb", 1<<64 - 1, true}, {"b ", 5, true},
	} {
		if got := p.Hash(c.name, c.d); got != c.want {
			t.Errorf("%q, %d: %v, want %v", c.name, c.d, got, c.want)
		}
	}
}

// P8.1: what somebody may see.
func TestTenant(t *testing.T) {
	p := rich()
	p.Tenants = append(p.Tenants, policy.Tenant{Name: "nobody", Labels: 1}, policy.Tenant{Name: "", Labels: 1 << 26}, policy.Tenant{Name: "", Labels: 2})
	for s, want := range map[string]mark.Labels{"main": 5, "nobody": 0, "all": mark.All, "": 1 << 26} {
		if got, ok := p.Tenant(s); got != want || !ok {
			t.Errorf("%q: %d, %v; want %d", s, got, ok, want)
		}
	}
	for _, s := range []string{"far-9", "x", "b", "a", "*", "no", "All", "all ", "allall"} {
		if got, ok := p.Tenant(s); got != 0 || ok {
			t.Errorf("%q: %d, %v", s, got, ok)
		}
	}
}

// P8.1: what isn't there in a policy without anything.
func TestNothing(t *testing.T) {
	for _, p := range []policy.Policy{{}, {Sources: []policy.Source{}, Claims: []policy.Claim{}, Pins: []policy.Pin{}, Hashes: []policy.Hash{}, Tenants: []policy.Tenant{}}} {
		for _, s := range []string{"", "main", "a", "*"} {
			if got := p.Source(s); got != -1 {
				t.Error(s, got)
			}
			if got, ok := p.Pin(s); got != (version.Version{}) || ok {
				t.Error(s, got, ok)
			}
			if !p.Hash(s, 0) || !p.Hash(s, 7) {
				t.Error(s)
			}
			if got, ok := p.Tenant(s); got != 0 || ok {
				t.Error(s, got, ok)
			}
		}
		if text, e := p.Text(); text != "policy\n" || e != 0 || p.Check() != 0 {
			t.Errorf("%q, %d, %d", text, e, p.Check())
		}
	}
}

// The words of the kinds are told by number to the layers above.
func TestKinds(t *testing.T) {
	for kind, word := range map[int]string{policy.Allow: "allow", policy.Deny: "deny", policy.First: "first"} {
		p, f := policy.Parse("policy\nclaim a " + word)
		if f.Code != 0 || len(p.Claims) != 1 || p.Claims[0].Kind != kind {
			t.Error(word, p, f)
		}
	}
	if policy.Allow != 0 || policy.Deny != 1 || policy.First != 2 {
		t.Error(policy.Allow, policy.Deny, policy.First)
	}
}
