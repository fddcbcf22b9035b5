package policy_test

import (
	"math"
	"strings"
	"testing"

	"chandler/api"
	"chandler/mark"
	"chandler/policy"
	"chandler/version"
)

// list: so many things, each made of its number.
func list[T any](n int, by func(i int) T) []T {
	var l []T
	for i := range n {
		l = append(l, by(i))
	}
	return l
}

// full: a policy that has as much as it may have.
func full() policy.Policy {
	p := policy.Policy{
		Sources: list(api.MaxSources, func(i int) policy.Source { return policy.Source{Name: num("s", i), Score: float64(i)} }),
		Claims:  list(api.MaxClaims, func(i int) policy.Claim { return policy.Claim{Glob: num("@lib/c", i) + "*", Kind: i % 3} }),
		Pins:    list(api.MaxPins, func(i int) policy.Pin { return policy.Pin{Name: num("n", i), Version: v(num("1.0.", i))} }),
		Hashes:  list(api.MaxHashes, func(i int) policy.Hash { return policy.Hash{Name: num("n", i), Digests: []mark.Digest{4, 3, 2, 1}} }),
		Tenants: list(api.MaxTenants, func(i int) policy.Tenant { return policy.Tenant{Name: num("t", i), Labels: mark.All} }),
	}
	for i := range p.Claims {
		p.Claims[i].Sources = list(api.MaxSources, func(j int) string { return num("s", (j+i)%api.MaxSources) })
	}
	return p
}

// odd things, none of which may be.
var (
	oddPlain    = []string{"", "-", "A", "a ", " a", "a\n", "a_b", "a-", "-a", "0a", "@lib", "@lib/", "@/a", "lib/a", "@lib/a/b", "@lib/*", "*", "a*", "@lib/a", "abcdefghijklmnopqrstu", "ä"}
	oddNames    = []string{"", "-", "A", "a ", " a", "a\n", "a_b", "a-", "-a", "0a", "@lib", "@lib/", "@/a", "lib/a", "@lib/a/b", "@lib/*", "*", "a*", "@lib/A", "abcdefghijklmnopqrstu", "@abcdefghijklmnopqrstu/a"}
	oddGlobs    = []string{"", "-", "A", "a ", "**", "a**", "*a", "-*", "@*", "@lib*", "@/*", "@lib/", "@lib/a/*", "@lib/-*", "0*", "abcdefghijklmnopqrstu*", "a-", "@*/a"}
	oddVersions = []version.Version{{N: [3]int{-1, 0, 0}}, {N: [3]int{0, 1000000, 0}}, {Pre: "A"}, {Pre: "a..b"}, {Pre: "a.b.c.d.e"}, {Pre: "01"}, {Pre: "a b"}, {Pre: "abcdefghi"}}
	oddLabels   = []mark.Labels{1 << 26, 1 << 31, 1<<27 | 1, 1<<32 - 1}
	oddKinds    = []int{-1, 3, 4, -1 << 63, 1<<63 - 1}
)

// flaw is something that a policy may not be, and what is told of it.
type flaw struct {
	what string
	code api.Errno
	by   func(p *policy.Policy)
}

// sourceFlaws: what is told of sources, in this order; each is of a part of its own, so that none undoes another.
func sourceFlaws() []flaw {
	return []flaw{
		{"too many sources", api.Bound, func(p *policy.Policy) { p.Sources = append(p.Sources, policy.Source{Name: "s9"}) }},
		{"name of source 1", api.Syntax, func(p *policy.Policy) { p.Sources[1].Name = "@lib/s" }},
		{"source 3 twice", api.Twice, func(p *policy.Policy) { p.Sources[3].Name = "s0" }},
		{"name of source 5", api.Syntax, func(p *policy.Policy) { p.Sources[5].Name = "s*" }},
		{"source 7 twice", api.Twice, func(p *policy.Policy) { p.Sources[7].Name = "s6" }},
	}
}

func claimFlaws() []flaw {
	set := func(i int, s ...string) func(p *policy.Policy) {
		return func(p *policy.Policy) { p.Claims[i].Sources = s }
	}
	return []flaw{
		{"too many claims", api.Bound, func(p *policy.Policy) { p.Claims = append(p.Claims, policy.Claim{Glob: "z"}) }},
		{"pattern of claim 0", api.Syntax, func(p *policy.Policy) { p.Claims[0].Glob = "@lib*" }},
		{"kind of claim 1", api.Syntax, func(p *policy.Policy) { p.Claims[1].Kind = 3 }},
		{"claim 1 without its source", api.Missing, set(1, "s2", "none", "s2")},
		{"a source twice in claim 2", api.Twice, set(2, "s2", "s4", "s2", "none")},
		{"claim 2 twice", api.Twice, func(p *policy.Policy) { p.Claims[2].Glob = "@lib/c1*" }},
		{"claim 3 without its source", api.Missing, set(3, "s2", "none", "none")},
		{"claim 3 twice", api.Twice, func(p *policy.Policy) { p.Claims[3].Glob = "@lib/c1*" }},
		{"kind of claim 4", api.Syntax, func(p *policy.Policy) { p.Claims[4].Kind = -1 }},
		{"claim 5 twice", api.Twice, func(p *policy.Policy) { p.Claims[5].Glob = "@lib/c1*" }},
	}
}

func pinFlaws() []flaw {
	return []flaw{
		{"too many pins", api.Bound, func(p *policy.Policy) { p.Pins = append(p.Pins, policy.Pin{Name: "z"}) }},
		{"version of pin 0", api.Syntax, func(p *policy.Policy) { p.Pins[0].Version.N[2] = 1000000 }},
		{"name of pin 1", api.Syntax, func(p *policy.Policy) { p.Pins[1].Name = "n-" }},
		{"version of pin 3", api.Syntax, func(p *policy.Policy) { p.Pins[3].Version.Pre = "A" }},
		{"pin 3 twice", api.Twice, func(p *policy.Policy) { p.Pins[3].Name = "n2" }},
		{"pin 5 twice", api.Twice, func(p *policy.Policy) { p.Pins[5].Name = "n2" }},
	}
}

func hashFlaws() []flaw {
	set := func(i int, d ...mark.Digest) func(p *policy.Policy) {
		return func(p *policy.Policy) { p.Hashes[i].Digests = d }
	}
	call := func(i int, s string) func(p *policy.Policy) {
		return func(p *policy.Policy) { p.Hashes[i].Name = s }
	}
	return []flaw{
		{"too many allowlists", api.Bound, func(p *policy.Policy) { p.Hashes = append(p.Hashes, policy.Hash{Name: "z"}) }},
		{"name of allowlist 0", api.Syntax, call(0, "n*")},
		{"allowlist 1 without digests", api.Syntax, set(1)},
		{"too many digests in allowlist 3", api.Bound, set(3, 1, 1, 1, 1, 1)},
		{"allowlist 3 twice", api.Twice, call(3, "n2")},
		{"a digest twice in allowlist 4", api.Twice, set(4, 1, 2, 1)},
		{"allowlist 5 twice", api.Twice, call(5, "n2")},
		{"allowlist 6 without digests", api.Syntax, set(6)},
		{"allowlist 6 twice", api.Twice, call(6, "n2")},
		{"too many digests in allowlist 7", api.Bound, set(7, 1, 2, 3, 4, 5)},
	}
}

func tenantFlaws() []flaw {
	return []flaw{
		{"too many tenants", api.Bound, func(p *policy.Policy) { p.Tenants = append(p.Tenants, policy.Tenant{Name: "z"}) }},
		{"name of tenant 0", api.Syntax, func(p *policy.Policy) { p.Tenants[0].Name = "T" }},
		{"labels of tenant 2", api.Syntax, func(p *policy.Policy) { p.Tenants[2].Labels |= 1 << 26 }},
		{"tenant 2 twice", api.Twice, func(p *policy.Policy) { p.Tenants[2].Name = "t1" }},
		{"tenant 4 twice", api.Twice, func(p *policy.Policy) { p.Tenants[4].Name = "t1" }},
		{"labels of tenant 7", api.Syntax, func(p *policy.Policy) { p.Tenants[7].Labels = 1 << 31 }},
	}
}

// P8.1: list by list, one by one: of two flaws the first is told.
func TestCheckOrder(t *testing.T) {
	if e := full().Check(); e != api.OK {
		t.Fatal("a full policy:", e)
	}
	var l []flaw
	for _, of := range [][]flaw{sourceFlaws(), claimFlaws(), pinFlaws(), hashFlaws(), tenantFlaws()} {
		l = append(l, of...)
	}
	for i, a := range l {
		for _, b := range l[i:] {
			p := full()
			// The later one ahead: it must not undo the first.
			b.by(&p)
			a.by(&p)
			if e := p.Check(); e != a.code {
				t.Errorf("%s, and %s: %d, want %d", a.what, b.what, e, a.code)
			}
			if text, e := p.Text(); text != "" || e != a.code {
				t.Errorf("%s, and %s: its text is %.60q, %d", a.what, b.what, text, e)
			}
		}
	}
}

// checks: of a policy with that alone Check says so.
func checks(t *testing.T, what any, p policy.Policy, want api.Errno) {
	t.Helper()
	if e := p.Check(); e != want {
		t.Errorf("%v: %d, want %d", what, e, want)
	}
	if text, e := p.Text(); e != want || (text == "") != (want != api.OK) {
		t.Errorf("%v: its text is %.60q, %d; want %d", what, text, e, want)
	}
}

func sources(l ...policy.Source) policy.Policy { return policy.Policy{Sources: l} }
func claims(l ...policy.Claim) policy.Policy {
	return policy.Policy{Sources: []policy.Source{{Name: "m"}, {Name: "o"}}, Claims: l}
}
func pins(l ...policy.Pin) policy.Policy       { return policy.Policy{Pins: l} }
func hashes(l ...policy.Hash) policy.Policy    { return policy.Policy{Hashes: l} }
func tenants(l ...policy.Tenant) policy.Policy { return policy.Policy{Tenants: l} }

// P8.1: names, patterns, kinds, versions, labels that may not be, each alone.
func TestCheckWords(t *testing.T) {
	some := []mark.Digest{1}
	for _, s := range oddPlain {
		checks(t, "source "+s, sources(policy.Source{Name: s}), api.Syntax)
		checks(t, "tenant "+s, tenants(policy.Tenant{Name: s}), api.Syntax)
		checks(t, "a claim's source "+s, claims(policy.Claim{Glob: "*", Sources: []string{s}}), api.Missing)
	}
	for _, s := range oddNames {
		checks(t, "pin "+s, pins(policy.Pin{Name: s}), api.Syntax)
		checks(t, "hash "+s, hashes(policy.Hash{Name: s, Digests: some}), api.Syntax)
	}
	for _, s := range oddGlobs {
		checks(t, "claim "+s, claims(policy.Claim{Glob: s}), api.Syntax)
	}
	for _, kind := range oddKinds {
		checks(t, kind, claims(policy.Claim{Glob: "*", Kind: kind}), api.Syntax)
	}
	for _, at := range oddVersions {
		checks(t, at, pins(policy.Pin{Name: "a", Version: at}), api.Syntax)
	}
	for _, l := range oddLabels {
		checks(t, l, tenants(policy.Tenant{Name: "a", Labels: l}), api.Syntax)
	}
	for _, x := range []float64{0, math.Copysign(0, -1), math.NaN(), math.Inf(1), math.Inf(-1), math.MaxFloat64, 5e-324, -1} {
		checks(t, x, sources(policy.Source{Name: "a", Score: x}), api.OK)
	}
	for _, s := range []string{"*", "a*", "a-*", "@lib/*", "@lib/a-*", "a", "@lib/a", "abcdefghijklmnopqrst*", "@abcdefghijklmnopqrst/abcdefghijklmnopqrst"} {
		checks(t, s, claims(policy.Claim{Glob: s}), api.OK)
	}
}

// P8.1: what is of one kind, alone and behind others.
func TestCheckLists(t *testing.T) {
	d := func(n int) []mark.Digest { return list(n, func(i int) mark.Digest { return mark.Digest(i) }) }
	from := func(s ...string) policy.Policy {
		return claims(policy.Claim{Glob: "*", Kind: policy.First, Sources: s})
	}
	for _, c := range []struct {
		what string
		p    policy.Policy
		want api.Errno
	}{
		{"as many sources as may be", policy.Policy{Sources: full().Sources}, api.OK},
		{"too many sources", sources(times(9, policy.Source{})...), api.Bound},
		{"sources alike but for a score", sources(policy.Source{Name: "a"}, policy.Source{Name: "a", Score: 1, Open: true}), api.Twice},
		{"sources that begin alike", sources(policy.Source{Name: "a"}, policy.Source{Name: "a-0"}, policy.Source{Name: "a0"}), api.OK},
		{"too many claims", policy.Policy{Claims: times(17, policy.Claim{})}, api.Bound},
		{"a claim's source", from("o"), api.OK},
		{"a claim's sources", from("o", "m"), api.OK},
		{"a claim's sources, twice", from("o", "m", "o"), api.Twice},
		{"a claim's sources, twice, then none", from("m", "m", "q"), api.Twice},
		{"a claim's sources, none, then twice", from("m", "q", "m"), api.Missing},
		{"a claim's sources, none twice", from("q", "q"), api.Missing},
		{"more than there are", from(times(1000, "m")...), api.Twice},
		{"without sources in the policy", policy.Policy{Claims: []policy.Claim{{Glob: "*", Sources: []string{"m"}}}}, api.Missing},
		{"a claim of another kind", claims(policy.Claim{Glob: "a*"}, policy.Claim{Glob: "a*", Kind: policy.Deny, Sources: []string{"m"}}), api.Twice},
		{"claims for one name", claims(policy.Claim{Glob: "a*"}, policy.Claim{Glob: "*"}, policy.Claim{Glob: "a"}), api.OK},
		{"claims twice, the second missing a source", claims(policy.Claim{Glob: "a"}, policy.Claim{Glob: "a", Sources: []string{"q"}}), api.Missing},
		{"claims twice, the second of no kind", claims(policy.Claim{Glob: "a"}, policy.Claim{Glob: "a", Kind: 3}), api.Syntax},
		{"too many pins", pins(times(17, policy.Pin{})...), api.Bound},
		{"pins of other versions", pins(policy.Pin{Name: "a", Version: v("1.0.0")}, policy.Pin{Name: "a", Version: v("2.0.0")}), api.Twice},
		{"pins of scopes", pins(policy.Pin{Name: "@a/a"}, policy.Pin{Name: "@b/a"}, policy.Pin{Name: "a"}), api.OK},
		{"too many allowlists", hashes(times(17, policy.Hash{})...), api.Bound},
		{"no digests", hashes(policy.Hash{Name: "a"}), api.Syntax},
		{"an empty list of digests", hashes(policy.Hash{Name: "a", Digests: d(0)}), api.Syntax},
		{"no digests, of no name", hashes(policy.Hash{}), api.Syntax},
		{"one digest", hashes(policy.Hash{Name: "a", Digests: d(1)}), api.OK},
		{"four digests", hashes(policy.Hash{Name: "a", Digests: d(4)}), api.OK},
		{"five digests", hashes(policy.Hash{Name: "a", Digests: d(5)}), api.Bound},
		{"five digests, alike", hashes(policy.Hash{Name: "a", Digests: times(5, mark.Digest(1))}), api.Bound},
		{"two digests, alike", hashes(policy.Hash{Name: "a", Digests: times(2, mark.Digest(1))}), api.Twice},
		{"four digests, two alike", hashes(policy.Hash{Name: "a", Digests: []mark.Digest{1, 0, 2, 0}}), api.Twice},
		{"five digests of no name", hashes(policy.Hash{Name: "A", Digests: d(5)}), api.Syntax},
		{"allowlists twice, the second too long", hashes(policy.Hash{Name: "a", Digests: d(1)}, policy.Hash{Name: "a", Digests: d(5)}), api.Bound},
		{"allowlists twice, the second without", hashes(policy.Hash{Name: "a", Digests: d(1)}, policy.Hash{Name: "a"}), api.Syntax},
		{"allowlists of one digest", hashes(policy.Hash{Name: "a", Digests: d(1)}, policy.Hash{Name: "b", Digests: d(1)}), api.OK},
		{"too many tenants", tenants(times(9, policy.Tenant{})...), api.Bound},
		{"tenants with other labels", tenants(policy.Tenant{Name: "a"}, policy.Tenant{Name: "a", Labels: 1}), api.Twice},
		{"one name in each list", policy.Policy{Sources: []policy.Source{{Name: "a"}}, Claims: []policy.Claim{{Glob: "a", Sources: []string{"a"}}}, Pins: []policy.Pin{{Name: "a"}}, Hashes: []policy.Hash{{Name: "a", Digests: d(1)}}, Tenants: []policy.Tenant{{Name: "a"}}}, api.OK},
	} {
		checks(t, c.what, c.p, c.want)
	}
}

// Rule 6: lists that are as long as memory allows end it, too; too long a list of sources isn't looked through.
func TestCheckLong(t *testing.T) {
	many := list(1<<17, func(i int) string { return num("s", i) })
	p := policy.Policy{Claims: []policy.Claim{{Glob: "*", Sources: many}}}
	for _, s := range many {
		p.Sources = append(p.Sources, policy.Source{Name: s})
	}
	checks(t, "many sources", p, api.Bound)
	p.Sources = p.Sources[:8]
	checks(t, "many sources of a claim", p, api.Missing)
	p.Claims[0].Sources = nil
	p.Hashes = []policy.Hash{{Name: strings.Repeat("a", 1<<20), Digests: []mark.Digest{1}}}
	checks(t, "a long name", p, api.Syntax)
	p.Hashes = []policy.Hash{{Name: "a", Digests: make([]mark.Digest, 1<<20)}}
	checks(t, "many digests", p, api.Bound)
}

// Rule 4: what is handed in isn't changed, the spare room neither.
func TestCheckChangesNothing(t *testing.T) {
	room := full()
	room.Claims[0].Sources = append(room.Claims[0].Sources, "spare")
	room.Sources = append(room.Sources, policy.Source{Name: "spare"})
	p := room
	p.Sources = room.Sources[:8]
	p.Claims = append([]policy.Claim(nil), room.Claims...)
	p.Claims[0].Sources = room.Claims[0].Sources[:8]
	if text, e := p.Text(); text == "" || e != api.OK || p.Check() != api.OK {
		t.Error(text, e)
	}
	p.Source("s1")
	p.Hash("n1", 1)
	want := full()
	want.Claims[0].Sources = append(want.Claims[0].Sources, "spare")
	want.Sources = append(want.Sources, policy.Source{Name: "spare"})
	if !same(room, want) {
		t.Error(room)
	}
}
