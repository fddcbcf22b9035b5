package trust_test

import (
	"math"
	"reflect"
	"slices"
	"strings"
	"testing"

	"chandler/api"
	"chandler/policy"
	"chandler/trust"
)

// parsed: the policy of a text, that must be one.
func parsed(t *testing.T, text string) policy.Policy {
	t.Helper()
	p, f := policy.Parse("policy\n" + text)
	if f.Code != api.OK {
		t.Fatalf("%q: %v", text, f)
	}
	return p
}

// whole: a deep copy of what trust looks at, with the spare room of all lists.
func whole(p policy.Policy) policy.Policy {
	p.Sources = slices.Clone(p.Sources[:cap(p.Sources)])
	p.Claims = slices.Clone(p.Claims[:cap(p.Claims)])
	for i, c := range p.Claims {
		p.Claims[i].Sources = slices.Clone(c.Sources[:cap(c.Sources)])
	}
	return p
}

// five: the sources of the policies below, three open ones and two closed ones, in no order of names or numbers.
const five = "source main 3ff0000000000000 open\n" +
	"source far bff0000000000000 closed\n" +
	"source corp 4000000000000000 open\n" +
	"source dark 0000000000000000 closed\n" +
	"source odd 8000000000000000 open\n"

// P10.1: which claim decides about a name, and whether it is First.
func TestClaim(t *testing.T) {
	p := parsed(t, five+
		"claim @lib/* allow main\n"+
		"claim a* first main\n"+
		"claim ab deny main\n"+
		"claim @lib/core-* first corp main\n"+
		"claim abc* allow\n"+
		"claim a-b first\n"+
		"claim @lib/core-x deny\n"+
		"claim @lib/c* allow dark\n"+
		"claim ab* first far\n")
	for _, x := range []struct {
		name  string
		place int
		first bool
	}{
		// No claim fits.
		{"b", -1, false},
		{"lib", -1, false},
		{"@other/a", -1, false},
		{"@core/a", -1, false},
		// One fits.
		{"a", 1, true},
		{"acd", 1, true},
		{"@lib/a", 0, false},
		// Several fit: a name says more than all beginnings, a longer beginning more than a shorter one, wherever they stand.
		{"ab", 2, false},
		{"abd", 8, true},
		{"abc", 4, false},
		{"abcd", 4, false},
		{"a-b", 5, true},
		{"a-bc", 1, true},
		{"@lib/core", 7, false},
		{"@lib/core-y", 3, true},
		{"@lib/core-x", 6, false},
		{"@lib/core-xy", 3, true},
		// What is no name: a pattern, a name's beginning, too long a name, others.
		{"", -1, false},
		{"a*", -1, false},
		{"@lib/*", -1, false},
		{"@lib/", -1, false},
		{"@lib/core-", -1, false},
		{"a-", -1, false},
		{"aB", -1, false},
		{"ab ", -1, false},
		{"@lib", -1, false},
		{"@lib/a/b", -1, false},
		{"a" + strings.Repeat("b", 20), -1, false},
		{"@lib/a" + strings.Repeat("b", 20), -1, false},
	} {
		if got := trust.Claim(p, x.name); got != x.place {
			t.Errorf("%q: Claim is %d, want %d", x.name, got, x.place)
		}
		if got := trust.First(p, x.name); got != x.first {
			t.Errorf("%q: First is %v, want %v", x.name, got, x.first)
		}
	}
	// One that fits all names, and what is none neither.
	p = parsed(t, five+"claim b* allow\nclaim * first far\n")
	for s, place := range map[string]int{"a": 1, "@lib/a": 1, "b": 0, "ab": 1, "": -1, "*": -1, "A": -1} {
		if got := trust.Claim(p, s); got != place || trust.First(p, s) != (place == 1) {
			t.Errorf("%q: Claim is %d, want %d", s, got, place)
		}
	}
	// Nobody claims anything.
	if p := parsed(t, five); trust.Claim(p, "a") != -1 || trust.First(p, "a") {
		t.Error("a claim where there is none")
	}
}

// P10.1, P10.3: which sources a name is trusted to.
func TestTrusted(t *testing.T) {
	for _, x := range []struct{ claims, name, want string }{
		// Nobody claims it: the open ones, in the policy's order.
		{"", "a", "main corp odd"},
		{"claim b allow main\n", "a", "main corp odd"},
		{"claim a* allow far\n", "b", "main corp odd"},
		{"claim @lib/* allow main\n", "a", "main corp odd"},
		{"claim @lib/* allow main\n", "@lib/a", "main"},
		// Allow: its sources, open or closed, in the policy's order.
		{"claim a allow\n", "a", ""},
		{"claim a allow far\n", "a", "far"},
		{"claim a allow main\n", "a", "main"},
		{"claim a allow dark corp far\n", "a", "far corp dark"},
		{"claim a allow odd dark corp far main\n", "a", "main far corp dark odd"},
		// Deny: all but its own, open or closed, in the policy's order.
		{"claim a deny\n", "a", "main far corp dark odd"},
		{"claim a deny far\n", "a", "main corp dark odd"},
		{"claim a deny odd main\n", "a", "far corp dark"},
		{"claim a deny odd dark corp far main\n", "a", ""},
		// First: its sources, in its own order.
		{"claim a first\n", "a", ""},
		{"claim a first dark\n", "a", "dark"},
		{"claim a first odd main\n", "a", "odd main"},
		{"claim a first main odd\n", "a", "main odd"},
		{"claim a first odd dark far corp main\n", "a", "odd dark far corp main"},
		// The one that says most decides alone.
		{"claim * allow main\nclaim a* first far corp\nclaim ab deny far\n", "b", "main"},
		{"claim * allow main\nclaim a* first far corp\nclaim ab deny far\n", "a", "far corp"},
		{"claim * allow main\nclaim a* first far corp\nclaim ab deny far\n", "ab", "main corp dark odd"},
		{"claim * deny\nclaim a allow\n", "a", ""},
		{"claim * deny\nclaim a first\n", "a", ""},
		{"claim a deny\nclaim * allow\n", "a", "main far corp dark odd"},
		// What is no name is trusted to nobody, whatever is claimed.
		{"", "", ""},
		{"", "A", ""},
		{"", "a*", ""},
		{"", "@lib/", ""},
		{"claim * deny\n", "", ""},
		{"claim * deny\n", "*", ""},
		{"claim * allow main\n", "a-", ""},
		{"claim @lib/* first main\n", "@lib/*", ""},
		{"claim @lib/* first main\n", "@lib/", ""},
	} {
		p := parsed(t, five+x.claims)
		want := strings.Fields(x.want)
		got := trust.Trusted(p, x.name)
		if !slices.Equal(got, want) {
			t.Errorf("%q: %q is trusted to %q, want %q", x.claims, x.name, got, want)
		}
		for _, source := range []string{"main", "far", "corp", "dark", "odd", "none", "", "open", "Main", "a"} {
			if got := trust.Trusts(p, x.name, source); got != slices.Contains(want, source) {
				t.Errorf("%q: %q is trusted to %q: %v", x.claims, x.name, source, got)
			}
		}
	}
}

// P10.1: the sources that no claim trusts.
func TestStrange(t *testing.T) {
	for _, x := range []struct{ claims, want string }{
		// Open or closed: where nobody claims anything all are strange.
		{"", "main far corp dark odd"},
		{"claim a allow main\n", "far corp dark odd"},
		{"claim a allow dark far\n", "main corp odd"},
		{"claim a allow\n", "main far corp dark odd"},
		{"claim a first odd corp\n", "main far dark"},
		{"claim a first\n", "main far corp dark odd"},
		// Who is denied something isn't trusted by that; all others are.
		{"claim a deny main\n", "main"},
		{"claim a deny odd corp far\n", "far corp odd"},
		{"claim a deny\n", ""},
		{"claim a deny odd dark corp far main\n", "main far corp dark odd"},
		// One claim that trusts it is enough, though another one decide about more names.
		{"claim a allow main\nclaim b first corp\n", "far dark odd"},
		{"claim a deny main odd\nclaim * first odd\n", "main"},
		{"claim a deny main\nclaim b deny odd\n", ""},
		{"claim a deny main odd\nclaim b deny odd far\n", "odd"},
		{"claim * allow main far corp\nclaim a allow dark odd\n", ""},
	} {
		if got := trust.Strange(parsed(t, five+x.claims)); !slices.Equal(got, strings.Fields(x.want)) {
			t.Errorf("%q: %q are strange, want %q", x.claims, got, x.want)
		}
	}
	if got := trust.Strange(parsed(t, "claim a deny\n")); len(got) != 0 {
		t.Error("strange sources where there are none:", got)
	}
}

// row: sources in no order that matters, and how they stand ahead of one another: by their numbers (the greater ahead, 0 ahead of -0, what is none behind all), by their names, and what the policy hasn't.
func row() (policy.Policy, []string) {
	none := math.Float64frombits
	p := policy.Policy{Sources: []policy.Source{
		{Name: "n", Score: none(0xfff8000000000123)},
		{Name: "z", Score: 2},
		{Name: "b", Score: 0, Open: true},
		{Name: "k", Score: math.Inf(-1)},
		{Name: "c", Score: math.Copysign(0, -1), Open: true},
		{Name: "m", Score: math.NaN(), Open: true},
		{Name: "a", Score: math.Copysign(0, -1)},
		{Name: "b-c", Score: 0},
		{Name: "y", Score: 2, Open: true},
		{Name: "x", Score: math.Inf(1)},
		{Name: "d", Score: -1.5},
		{Name: "l", Score: none(0x7ff0000000000001)},
		{Name: "b1", Score: 0},
		{Name: "e", Score: math.SmallestNonzeroFloat64},
		{Name: "f", Score: -math.SmallestNonzeroFloat64},
		{Name: "w", Score: math.MaxFloat64},
	}}
	ahead := "x w y z e b b-c b1 a c f d k l m n"
	// None of these has the policy: they stand by their names, what is none ahead of what is one.
	behind := []string{"", "A", "aa", "b-", "b-d", "xx", "z0", "~"}
	return p, append(strings.Fields(ahead), behind...)
}

// P10.1, P10.2: each source held against each.
func TestCompare(t *testing.T) {
	p, order := row()
	for i, a := range order {
		for j, b := range order {
			want := 0
			if i < j {
				want = -1
			} else if i > j {
				want = 1
			}
			if got := trust.Compare(p, a, b); got != want {
				t.Errorf("Compare(%q, %q) is %d, want %d", a, b, got, want)
			}
		}
	}
	// In whatever order the policy has them.
	slices.Reverse(p.Sources)
	shuffled := slices.Clone(order)
	slices.Sort(shuffled)
	slices.SortFunc(shuffled, func(a, b string) int { return trust.Compare(p, a, b) })
	if !slices.Equal(shuffled, order) {
		t.Errorf("sorted to %q, want %q", shuffled, order)
	}
	// Without sources names alone count.
	if got := trust.Compare(policy.Policy{}, "a", "b"); got != -1 {
		t.Error("two strangers: ", got)
	}
}

// Rule 4: nothing that is handed in is changed, its spare room neither, and answers are new memory.
func TestNewMemory(t *testing.T) {
	p := parsed(t, five+"claim a first far main\nclaim b allow far main\nclaim c deny far\nclaim d first\n")
	p.Sources = append(make([]policy.Source, 0, 8), p.Sources...)
	p.Claims = append(make([]policy.Claim, 0, 8), p.Claims...)
	for i, c := range p.Claims {
		p.Claims[i].Sources = append(make([]string, 0, 8), c.Sources...)
	}
	want := whole(p)
	scribble := func(l []string) {
		l = l[:cap(l)]
		for i := range l {
			l[i] = "mine"
		}
	}
	for _, s := range []string{"a", "b", "c", "d", "e", "A"} {
		l := trust.Trusted(p, s)
		again := slices.Clone(l)
		scribble(l)
		if got := trust.Trusted(p, s); !slices.Equal(got, again) {
			t.Errorf("%q: %q after %q", s, got, again)
		}
		trust.Claim(p, s)
		trust.First(p, s)
		trust.Trusts(p, s, "far")
	}
	scribble(trust.Strange(p))
	trust.Compare(p, "far", "main")
	if !reflect.DeepEqual(whole(p), want) {
		t.Error("the policy was changed")
	}
}

// Rule 6: no policy, and none that may be one, makes a call panic.
func TestAnyPolicy(t *testing.T) {
	names := []string{"", "a", "@lib/a", "*", "main", "\xff"}
	many := policy.Policy{Sources: make([]policy.Source, 1000), Claims: make([]policy.Claim, 1000)}
	for i := range many.Claims {
		many.Claims[i] = policy.Claim{Glob: "*", Kind: i - 500, Sources: []string{"main", "none", "", "main"}}
	}
	odd := func(kind int) policy.Policy {
		return policy.Policy{
			Sources: []policy.Source{{Name: "main"}, {Name: "main", Open: true}, {Name: "", Open: true}},
			Claims:  []policy.Claim{{Glob: "", Kind: kind}, {Glob: "*", Kind: kind, Sources: []string{"", "none", "main", "main"}}, {Glob: "@", Kind: kind}},
		}
	}
	for _, p := range []policy.Policy{{}, {Sources: []policy.Source{}, Claims: []policy.Claim{}}, odd(-1), odd(0), odd(1), odd(2), odd(3), odd(math.MaxInt), odd(math.MinInt), many} {
		trust.Strange(p)
		for _, a := range names {
			trust.Claim(p, a)
			trust.First(p, a)
			trust.Trusted(p, a)
			for _, b := range names {
				trust.Trusts(p, a, b)
				trust.Compare(p, a, b)
			}
		}
	}
	p := policy.Policy{}
	if trust.Claim(p, "a") != -1 || trust.First(p, "a") || len(trust.Trusted(p, "a")) != 0 || trust.Trusts(p, "a", "") || len(trust.Strange(p)) != 0 {
		t.Error("something of an empty policy")
	}
}
