package view_test

import (
	"reflect"
	"slices"
	"strconv"
	"strings"
	"testing"

	"chandler/api"
	"chandler/index"
	"chandler/mark"
	"chandler/policy"
	"chandler/spec"
	"chandler/version"
	"chandler/view"
)

// rules: the policy of these lines, that must be one, with the sources of five ahead.
func rules(t *testing.T, text string) policy.Policy {
	t.Helper()
	p, f := policy.Parse("policy\n" + five + text)
	if f.Code != api.OK {
		t.Fatalf("%q: %v", text, f)
	}
	return p
}

// five: sources in no order of names or numbers. By their numbers they stand so: corp, far, main, odd, dark.
const five = "source main 3ff0000000000000 open\n" +
	"source far 3ff0000000000000 closed\n" +
	"source corp 4000000000000000 open\n" +
	"source dark bff0000000000000 open\n" +
	"source odd 0000000000000000 open\n"

// catalog: indexes, that must be some, of lines: source, name, version, digest's last digit, labels, and yanked where it is so.
func catalog(t *testing.T, text string) []index.Index {
	t.Helper()
	var sources []string
	texts := map[string]string{}
	for line := range strings.Lines(text) {
		w := strings.Fields(line)
		if _, ok := texts[w[0]]; !ok {
			sources = append(sources, w[0])
			texts[w[0]] = "index " + w[0] + "\n"
		}
		w[3] = strings.Repeat("0", 15) + w[3]
		texts[w[0]] += "entry " + strings.Join(w[1:], " ") + "\n"
	}
	var cat []index.Index
	for _, s := range sources {
		x, f := index.Parse(texts[s])
		if f.Code != api.OK {
			t.Fatalf("%q: %v", texts[s], f)
		}
		cat = append(cat, x)
	}
	return cat
}

// labels are those of a text.
func labels(t *testing.T, s string) mark.Labels {
	t.Helper()
	l, ok := mark.Parse(s)
	if !ok {
		t.Fatalf("no labels: %q", s)
	}
	return l
}

// v is the version of a text.
func v(s string) version.Version {
	x, ok := version.Parse(s)
	if !ok {
		panic("no version: " + s)
	}
	return x
}

// need is a need of a name, and of versions that a range's text tells.
func need(s, r string) index.Need {
	rng, ok := spec.Parse(r)
	if !ok {
		panic("no range: " + r)
	}
	return index.Need{Name: s, Range: rng}
}

// told: what is seen, a line each: name, version, source, and why it may not be taken.
func told(l []view.Seen) string {
	text := ""
	for _, x := range l {
		text += x.Name + " " + x.Version.Text() + " " + x.Source + " " + strconv.Itoa(x.Why) + "\n"
	}
	return text
}

// sees: of this, in all orders that are tried, that is seen.
func sees(t *testing.T, p policy.Policy, clearance, cat, want string) {
	t.Helper()
	top := labels(t, clearance)
	given := catalog(t, cat)
	for range 2 {
		for i := range given {
			for range 2 {
				if got := told(view.See(p, top, given)); got != want {
					t.Errorf("%s\nfor %s of\n%sis seen\n%swant\n%s", tail(t, p), clearance, cat, got, want)
					return
				}
				slices.Reverse(given[i].Entries)
			}
			slices.Reverse(given[i].Entries)
		}
		slices.Reverse(given)
	}
}

// tail: a policy's text without its sources.
func tail(t *testing.T, p policy.Policy) string {
	t.Helper()
	text, _ := p.Text()
	return strings.TrimPrefix(text, "policy\n"+five)
}

// P11.1: the numbers that tell why.
func TestWhy(t *testing.T) {
	got := []int{view.Fine, view.Pinned, view.Hashed, view.Yanked, view.Later}
	if !slices.Equal(got, []int{0, 1, 2, 3, 4}) {
		t.Error(got)
	}
}

// P11.1: who sees what: the labels.
func TestLabels(t *testing.T) {
	cat := "main a 1.0.0 1 -\nmain a 1.1.0 1 x\nmain a 1.2.0 1 xy\nmain a 1.3.0 1 az\nmain a 1.4.0 1 abcdefghijklmnopqrstuvwxyz\n"
	p := rules(t, "tenant t x\n")
	for _, x := range []struct{ clearance, want string }{
		{"-", "a 1.0.0 main 0\n"},
		{"x", "a 1.1.0 main 0\na 1.0.0 main 0\n"},
		{"y", "a 1.0.0 main 0\n"},
		{"xy", "a 1.2.0 main 0\na 1.1.0 main 0\na 1.0.0 main 0\n"},
		{"wxyz", "a 1.2.0 main 0\na 1.1.0 main 0\na 1.0.0 main 0\n"},
		{"a", "a 1.0.0 main 0\n"},
		{"z", "a 1.0.0 main 0\n"},
		{"az", "a 1.3.0 main 0\na 1.0.0 main 0\n"},
		{"axz", "a 1.3.0 main 0\na 1.1.0 main 0\na 1.0.0 main 0\n"},
		{"abcdefghijklmnopqrstuvwyz", "a 1.3.0 main 0\na 1.0.0 main 0\n"},
		{"abcdefghijklmnopqrstuvwxyz", "a 1.4.0 main 0\na 1.3.0 main 0\na 1.2.0 main 0\na 1.1.0 main 0\na 1.0.0 main 0\n"},
	} {
		sees(t, p, x.clearance, cat, x.want)
	}
}

// P11.1: who sees what: the sources that are trusted for a name.
func TestSources(t *testing.T) {
	cat := "main a 1.0.0 1 -\nfar a 1.0.0 1 -\ncorp a 1.0.0 1 -\nnone a 1.0.0 1 -\nmain @lib/a 1.0.0 1 -\nfar @lib/a 1.0.0 1 -\ndark @lib/a 1.0.0 1 -\nnone @lib/a 1.0.0 1 -\n"
	for _, x := range []struct{ rules, want string }{
		// Who isn't in the policy, or is closed, has nothing that nobody claims.
		{"", "@lib/a 1.0.0 main 0\n@lib/a 1.0.0 dark 0\na 1.0.0 corp 0\na 1.0.0 main 0\n"},
		{"claim @lib/* allow main\n", "@lib/a 1.0.0 main 0\na 1.0.0 corp 0\na 1.0.0 main 0\n"},
		{"claim @lib/* allow far dark\n", "@lib/a 1.0.0 far 0\n@lib/a 1.0.0 dark 0\na 1.0.0 corp 0\na 1.0.0 main 0\n"},
		{"claim a deny main\n", "@lib/a 1.0.0 main 0\n@lib/a 1.0.0 dark 0\na 1.0.0 corp 0\na 1.0.0 far 0\n"},
		{"claim * deny\n", "@lib/a 1.0.0 far 0\n@lib/a 1.0.0 main 0\n@lib/a 1.0.0 dark 0\na 1.0.0 corp 0\na 1.0.0 far 0\na 1.0.0 main 0\n"},
		{"claim * allow\nclaim @lib/a deny far\n", "@lib/a 1.0.0 main 0\n@lib/a 1.0.0 dark 0\n"},
		{"claim * first\n", ""},
		{"claim * allow odd\n", ""},
	} {
		sees(t, rules(t, x.rules), "-", cat, x.want)
	}
	sees(t, policy.Policy{}, "-", cat, "")
	sees(t, rules(t, ""), "-", "", "")
}

// P11.1: what is seen, in order: by names, versions, and sources.
func TestOrder(t *testing.T) {
	// Names byte by byte, of one name the higher version first, whatever their texts are like.
	sees(t, rules(t, ""), "-",
		"main b 1.0.0 1 -\nmain @lib/z 1.0.0 1 -\nmain a 1.0.0 1 -\nmain a-b 3.0.0 1 -\nmain ab 1.0.0 1 -\nmain a1 1.0.0 1 -\nmain a 10.0.0 1 -\nmain a 9.0.0 1 -\nmain a 1.0.0-a 1 -\nmain a 1.0.0-rc.10 1 -\nmain a 1.0.0-rc.2 1 -\nmain a 0.9.9 1 -\n",
		"@lib/z 1.0.0 main 0\na 10.0.0 main 0\na 9.0.0 main 0\na 1.0.0 main 0\na 1.0.0-rc.10 main 0\na 1.0.0-rc.2 main 0\na 1.0.0-a main 0\na 0.9.9 main 0\na-b 3.0.0 main 0\na1 1.0.0 main 0\nab 1.0.0 main 0\nb 1.0.0 main 0\n")
	// Of one version the source whose number is greater; of one number, the lesser name. A version is one, its twins are others.
	sees(t, rules(t, "claim a deny\n"), "-",
		"dark a 1.0.0 1 -\ndark a 1.0.0-b 1 -\nodd a 1.0.0 1 -\nmain a 1.0.0 1 -\nmain a 1.0.0-b 1 -\nfar a 1.0.0 1 -\nfar a 0.1.0 1 -\ncorp a 1.0.0 1 -\ncorp a 1.0.0-a 1 -\n",
		"a 1.0.0 corp 0\na 1.0.0 far 0\na 1.0.0 main 0\na 1.0.0 odd 0\na 1.0.0 dark 0\na 1.0.0-b main 0\na 1.0.0-b dark 0\na 1.0.0-a corp 0\na 0.1.0 far 0\n")
	// Names stand ahead of versions, versions ahead of sources.
	sees(t, rules(t, ""), "-",
		"corp b 3.0.0 1 -\ncorp a 1.0.0 1 -\ndark a 2.0.0 1 -\nmain b 2.0.0 1 -\n",
		"a 2.0.0 dark 0\na 1.0.0 corp 0\nb 3.0.0 corp 0\nb 2.0.0 main 0\n")
}

// P11.1: a name that is pinned, to a version that is there or isn't.
func TestPinned(t *testing.T) {
	cat := "main a 1.0.0 1 -\nmain a 2.0.0 1 -\nmain a 2.0.0-a 1 -\ncorp a 2.0.0 1 -\nmain ab 2.0.0 1 -\nmain b 1.0.0 1 -\n"
	for _, x := range []struct{ rules, want string }{
		{"pin a 2.0.0\n", "a 2.0.0 corp 0\na 2.0.0 main 0\na 2.0.0-a main 1\na 1.0.0 main 1\nab 2.0.0 main 0\nb 1.0.0 main 0\n"},
		{"pin a 2.0.0-a\n", "a 2.0.0 corp 1\na 2.0.0 main 1\na 2.0.0-a main 0\na 1.0.0 main 1\nab 2.0.0 main 0\nb 1.0.0 main 0\n"},
		{"pin a 3.0.0\npin ab 2.0.0\n", "a 2.0.0 corp 1\na 2.0.0 main 1\na 2.0.0-a main 1\na 1.0.0 main 1\nab 2.0.0 main 0\nb 1.0.0 main 0\n"},
		{"pin b 1.0.0\npin a 1.0.0\n", "a 2.0.0 corp 1\na 2.0.0 main 1\na 2.0.0-a main 1\na 1.0.0 main 0\nab 2.0.0 main 0\nb 1.0.0 main 0\n"},
		{"pin c 1.0.0\n", "a 2.0.0 corp 0\na 2.0.0 main 0\na 2.0.0-a main 0\na 1.0.0 main 0\nab 2.0.0 main 0\nb 1.0.0 main 0\n"},
	} {
		sees(t, rules(t, x.rules), "-", cat, x.want)
	}
}

// P11.1: an allowlist with and without the entry's digest.
func TestHashed(t *testing.T) {
	cat := "main a 1.0.0 1 -\nmain a 2.0.0 2 -\ncorp a 2.0.0 3 -\nmain b 1.0.0 4 -\n"
	for _, x := range []struct{ rules, want string }{
		{"hash a 0000000000000002\n", "a 2.0.0 corp 2\na 2.0.0 main 0\na 1.0.0 main 2\nb 1.0.0 main 0\n"},
		{"hash a 0000000000000003 0000000000000001\n", "a 2.0.0 corp 0\na 2.0.0 main 2\na 1.0.0 main 0\nb 1.0.0 main 0\n"},
		{"hash a 0000000000000004\nhash b 0000000000000004\n", "a 2.0.0 corp 2\na 2.0.0 main 2\na 1.0.0 main 2\nb 1.0.0 main 0\n"},
		{"hash b 0000000000000001\n", "a 2.0.0 corp 0\na 2.0.0 main 0\na 1.0.0 main 0\nb 1.0.0 main 2\n"},
		{"hash c 0000000000000009\n", "a 2.0.0 corp 0\na 2.0.0 main 0\na 1.0.0 main 0\nb 1.0.0 main 0\n"},
	} {
		sees(t, rules(t, x.rules), "-", cat, x.want)
	}
}

// P11.1: a yanked entry, with and without a pin.
func TestYanked(t *testing.T) {
	cat := "main a 1.0.0 1 -\nmain a 2.0.0 2 - yanked\ncorp a 2.0.0 3 -\nmain b 1.0.0 4 x yanked\n"
	for _, x := range []struct{ rules, want string }{
		{"", "a 2.0.0 corp 0\na 2.0.0 main 3\na 1.0.0 main 0\nb 1.0.0 main 3\n"},
		{"pin a 2.0.0\n", "a 2.0.0 corp 0\na 2.0.0 main 0\na 1.0.0 main 1\nb 1.0.0 main 3\n"},
		{"pin a 1.0.0\n", "a 2.0.0 corp 1\na 2.0.0 main 1\na 1.0.0 main 0\nb 1.0.0 main 3\n"},
		{"pin b 1.0.0\n", "a 2.0.0 corp 0\na 2.0.0 main 3\na 1.0.0 main 0\nb 1.0.0 main 0\n"},
		{"pin c 2.0.0\nhash a 0000000000000002\n", "a 2.0.0 corp 2\na 2.0.0 main 3\na 1.0.0 main 2\nb 1.0.0 main 3\n"},
	} {
		sees(t, rules(t, x.rules), "x", cat, x.want)
	}
}

// P11.1: of several reasons the first one is told.
func TestFirstReason(t *testing.T) {
	for _, x := range []struct{ rules, cat, want string }{
		// Pinned, ahead of each of the others.
		{"pin a 1.0.0\nhash a 0000000000000009\n", "main a 2.0.0 1 -\n", "a 2.0.0 main 1\n"},
		{"pin a 1.0.0\n", "main a 2.0.0 1 - yanked\n", "a 2.0.0 main 1\n"},
		{"pin a 1.0.0\nclaim a first odd main\n", "main a 2.0.0 1 -\nodd a 1.0.0 1 -\n", "a 2.0.0 main 1\na 1.0.0 odd 0\n"},
		{"pin a 1.0.0\nhash a 0000000000000001\nclaim a first odd main\n", "main a 2.0.0 2 - yanked\nodd a 1.0.0 1 -\n", "a 2.0.0 main 1\na 1.0.0 odd 0\n"},
		// Hashed, ahead of those behind it.
		{"hash a 0000000000000009\n", "main a 2.0.0 1 - yanked\n", "a 2.0.0 main 2\n"},
		{"pin a 2.0.0\nhash a 0000000000000009\n", "main a 2.0.0 1 - yanked\n", "a 2.0.0 main 2\n"},
		{"hash a 0000000000000001\nclaim a first odd main\n", "main a 2.0.0 2 -\nodd a 1.0.0 1 -\n", "a 2.0.0 main 2\na 1.0.0 odd 0\n"},
		{"hash a 0000000000000001\nclaim a first odd main\n", "main a 2.0.0 2 - yanked\nodd a 1.0.0 1 -\n", "a 2.0.0 main 2\na 1.0.0 odd 0\n"},
		// Yanked, ahead of Later; pinned, it is Later alone.
		{"claim a first odd main\n", "main a 2.0.0 1 - yanked\nodd a 1.0.0 1 -\n", "a 2.0.0 main 3\na 1.0.0 odd 0\n"},
		{"pin a 2.0.0\nclaim a first odd main\n", "main a 2.0.0 1 - yanked\nodd a 2.0.0 1 -\n", "a 2.0.0 main 4\na 2.0.0 odd 0\n"},
	} {
		sees(t, rules(t, x.rules), "-", x.cat, x.want)
	}
}

// P11.1: what a First claim leaves to the source that has something.
func TestLater(t *testing.T) {
	for _, x := range []struct{ rules, cat, want string }{
		// Something that is fine, of whatever version, ahead in the claim's order, not in that of the policy or of the numbers.
		{"claim a first main corp\n", "main a 1.0.0 1 -\ncorp a 1.0.0 1 -\n", "a 1.0.0 corp 4\na 1.0.0 main 0\n"},
		{"claim a first corp main\n", "main a 1.0.0 1 -\ncorp a 1.0.0 1 -\n", "a 1.0.0 corp 0\na 1.0.0 main 4\n"},
		{"claim a first dark corp\n", "dark a 0.1.0 1 -\ncorp a 3.0.0 1 -\ncorp a 0.1.0 1 -\ncorp a 0.0.1 1 -\n", "a 3.0.0 corp 4\na 0.1.0 corp 4\na 0.1.0 dark 0\na 0.0.1 corp 4\n"},
		// All that the foremost has stays.
		{"claim a first odd dark\n", "odd a 1.0.0 1 -\nodd a 2.0.0 1 -\nodd a 1.5.0 1 - yanked\n", "a 2.0.0 odd 0\na 1.5.0 odd 3\na 1.0.0 odd 0\n"},
		{"claim a first odd dark\n", "dark a 1.0.0 1 -\ndark a 2.0.0 1 -\n", "a 2.0.0 dark 0\na 1.0.0 dark 0\n"},
		// It is enough that one thing is fine.
		{"claim a first odd dark\n", "odd a 1.0.0 1 - yanked\nodd a 1.1.0 1 -\ndark a 2.0.0 1 -\n", "a 2.0.0 dark 4\na 1.1.0 odd 0\na 1.0.0 odd 3\n"},
		// Several sources behind one another: all behind the foremost that has something fine.
		{"claim a first odd dark corp far\n", "odd a 1.0.0 1 - yanked\ndark a 2.0.0 1 -\ncorp a 3.0.0 1 -\nfar a 4.0.0 1 -\n", "a 4.0.0 far 4\na 3.0.0 corp 4\na 2.0.0 dark 0\na 1.0.0 odd 3\n"},
		{"claim a first odd dark corp far\n", "odd a 1.0.0 1 -\ndark a 2.0.0 1 - yanked\ncorp a 3.0.0 1 -\nfar a 4.0.0 1 -\n", "a 4.0.0 far 4\na 3.0.0 corp 4\na 2.0.0 dark 3\na 1.0.0 odd 0\n"},
		// Seen, but not fine: pinned to another version, not on the list, yanked.
		{"claim a first odd dark\npin a 2.0.0\n", "odd a 1.0.0 1 -\ndark a 2.0.0 1 -\n", "a 2.0.0 dark 0\na 1.0.0 odd 1\n"},
		{"claim a first odd dark\nhash a 0000000000000002\n", "odd a 1.0.0 1 -\ndark a 2.0.0 2 -\n", "a 2.0.0 dark 0\na 1.0.0 odd 2\n"},
		{"claim a first odd dark\n", "odd a 1.0.0 1 - yanked\ndark a 2.0.0 2 -\n", "a 2.0.0 dark 0\na 1.0.0 odd 3\n"},
		// Yanked, but pinned, so that it is fine.
		{"claim a first odd dark\npin a 1.0.0\n", "odd a 1.0.0 1 - yanked\ndark a 1.0.0 2 -\n", "a 1.0.0 odd 0\na 1.0.0 dark 4\n"},
		// Not seen, by its labels; seen with some that the tenant has.
		{"claim a first odd dark\n", "odd a 1.0.0 1 y\ndark a 2.0.0 1 x\n", "a 2.0.0 dark 0\n"},
		{"claim a first odd dark\n", "odd a 1.0.0 1 xy\ndark a 2.0.0 1 x\n", "a 2.0.0 dark 0\n"},
		{"claim a first odd dark\n", "odd a 1.0.0 1 x\ndark a 2.0.0 1 x\n", "a 2.0.0 dark 4\na 1.0.0 odd 0\n"},
		// Not trusted, though it stands ahead in the policy, and is open.
		{"claim a first odd dark\n", "main a 1.0.0 1 -\nnone a 1.0.0 1 -\ndark a 2.0.0 1 -\n", "a 2.0.0 dark 0\n"},
		// Of another name, though the same claim decide about it.
		{"claim a* first odd dark\n", "odd ab 1.0.0 1 -\ndark a 2.0.0 1 -\ndark ab 1.1.0 1 -\nodd b 1.0.0 1 -\ndark b 1.0.0 1 -\n", "a 2.0.0 dark 0\nab 1.1.0 dark 4\nab 1.0.0 odd 0\nb 1.0.0 odd 0\nb 1.0.0 dark 0\n"},
		// Another kind of claim, or one that says more.
		{"claim a allow odd dark\n", "odd a 1.0.0 1 -\ndark a 2.0.0 1 -\n", "a 2.0.0 dark 0\na 1.0.0 odd 0\n"},
		{"claim a deny main\n", "odd a 1.0.0 1 -\ndark a 2.0.0 1 -\n", "a 2.0.0 dark 0\na 1.0.0 odd 0\n"},
		{"claim * first odd dark\nclaim a allow odd dark\n", "odd a 1.0.0 1 -\ndark a 2.0.0 1 -\nodd b 1.0.0 1 -\ndark b 2.0.0 1 -\n", "a 2.0.0 dark 0\na 1.0.0 odd 0\nb 2.0.0 dark 4\nb 1.0.0 odd 0\n"},
		{"claim * first odd dark\nclaim a first dark odd\n", "odd a 1.0.0 1 -\ndark a 2.0.0 1 -\nodd b 1.0.0 1 -\ndark b 2.0.0 1 -\n", "a 2.0.0 dark 0\na 1.0.0 odd 4\nb 2.0.0 dark 4\nb 1.0.0 odd 0\n"},
	} {
		sees(t, rules(t, x.rules), "x", x.cat, x.want)
	}
}

// rich: an index whose entry has something of all.
func rich(t *testing.T) index.Index {
	t.Helper()
	x, f := index.Parse("index main\nentry a 1.2.0-rc.2 00000000000000aa xz yanked\nban b <2.0.0\nban @lib/c *\nneed d ^1.0.0 tls\nfeature net\nneed ssl *\nfeature tls\n")
	if f.Code != api.OK {
		t.Fatal(f)
	}
	return x
}

// P11.1: an entry is handed on whole; a candidate has its fields and calls.
func TestEmbedded(t *testing.T) {
	x := rich(t)
	l := view.See(rules(t, ""), mark.All, []index.Index{x})
	if len(l) != 1 || !reflect.DeepEqual(l[0], view.Seen{Cand: view.Cand{Entry: x.Entries[0], Source: "main"}, Why: view.Yanked}) {
		t.Fatalf("%+v", l)
	}
	one := l[0]
	if one.Feat("tls") != 1 || one.Cand.Feat("net") != 0 || one.Feat("x") != -1 || one.Check() != api.OK || one.Cand.Check() != api.OK {
		t.Error("its calls")
	}
	if one.Name != "a" || one.Version != v("1.2.0-rc.2") || one.Digest != 0xaa || one.Labels.Text() != "xz" || !one.Yanked || len(one.Bans) != 2 || len(one.Needs) != 1 || len(one.Feats) != 2 || one.Source != "main" {
		t.Error("its fields")
	}
	if got := view.Adm(view.See(rules(t, "pin a 1.2.0-rc.2\n"), mark.All, []index.Index{x})); len(got) != 1 || !reflect.DeepEqual(got[0], one.Cand) {
		t.Errorf("%+v", got)
	}
}

// P11.1: those that may be taken, in order.
func TestAdm(t *testing.T) {
	var l []view.Seen
	want := ""
	for i, why := range []int{4, 0, 1, 0, 0, 2, 3, 0, 5, -1} {
		x := view.Seen{Cand: view.Cand{Entry: index.Entry{Name: "a" + strconv.Itoa(9-i)}, Source: "main"}, Why: why}
		l = append(l, x)
		if why == view.Fine {
			want += x.Name + " "
		}
	}
	got := ""
	for _, x := range view.Adm(l) {
		got += x.Name + " "
	}
	if got != want {
		t.Errorf("%q, want %q", got, want)
	}
	if len(view.Adm(nil)) != 0 || len(view.Adm([]view.Seen{})) != 0 || len(view.Adm(l[:1])) != 0 {
		t.Error("something of nothing")
	}
}

// cands: candidates, of lines: name, version, source.
func cands(text string) []view.Cand {
	var l []view.Cand
	for line := range strings.Lines(text) {
		w := strings.Fields(line)
		l = append(l, view.Cand{Entry: index.Entry{Name: w[0], Version: v(w[1])}, Source: w[2]})
	}
	return l
}

const several = "b 1.0.0 main\na 2.0.0 main\na 1.0.0 main\nab 1.0.0 main\na 1.0.0-rc.2 main\na 1.0.0 far\nb 2.0.0 far\na 2.0.0 main\n@lib/a 1.0.0 main\n"

// P11.1: the places of a name's, and of those that a need takes.
func TestOfAndIn(t *testing.T) {
	l := cands(several)
	for _, x := range []struct {
		name, needed string
		of, in       []int
	}{
		{"a", "*", []int{1, 2, 4, 5, 7}, []int{1, 2, 5, 7}},
		{"a", "^1.0.0", []int{1, 2, 4, 5, 7}, []int{2, 5}},
		{"a", "=1.0.0-rc.2", []int{1, 2, 4, 5, 7}, []int{4}},
		{"a", ">=1.0.0-rc.1", []int{1, 2, 4, 5, 7}, []int{1, 2, 4, 5, 7}},
		{"a", "<2.0.0|>3.0.0", []int{1, 2, 4, 5, 7}, []int{2, 5}},
		{"a", "^3.0.0", []int{1, 2, 4, 5, 7}, nil},
		{"b", "*", []int{0, 6}, []int{0, 6}},
		{"b", ">1.0.0", []int{0, 6}, []int{6}},
		{"ab", "*", []int{3}, []int{3}},
		{"@lib/a", "=1.0.0", []int{8}, []int{8}},
		{"@lib/a", "=1.0.1", []int{8}, nil},
		{"c", "*", nil, nil},
		{"", "*", nil, nil},
		{"a*", "*", nil, nil},
	} {
		if got := view.Of(l, x.name); !slices.Equal(got, x.of) {
			t.Errorf("Of %q are %v, want %v", x.name, got, x.of)
		}
		n := need(x.name, x.needed)
		n.Feats = []string{"tls"}
		if got := view.In(l, n); !slices.Equal(got, x.in) {
			t.Errorf("In %q %q are %v, want %v", x.name, x.needed, got, x.in)
		}
	}
	// A range without alternatives is none.
	if got := view.In(l, index.Need{Name: "a"}); len(got) != 0 {
		t.Error(got)
	}
	if len(view.Of(nil, "a")) != 0 || len(view.In(nil, need("a", "*"))) != 0 {
		t.Error("places in nothing")
	}
}

// P11.1: the place of a version of a source.
func TestFind(t *testing.T) {
	l := cands(several)
	for _, x := range []struct {
		name, version, source string
		place                 int
	}{
		{"b", "1.0.0", "main", 0},
		{"a", "2.0.0", "main", 1},
		{"a", "1.0.0", "main", 2},
		{"a", "1.0.0", "far", 5},
		{"a", "1.0.0-rc.2", "main", 4},
		{"b", "2.0.0", "far", 6},
		{"@lib/a", "1.0.0", "main", 8},
		{"b", "2.0.0", "main", -1},
		{"b", "1.0.0", "far", -1},
		{"a", "2.0.0", "far", -1},
		{"a", "1.0.0-rc.2", "far", -1},
		{"a", "1.0.0-rc.1", "main", -1},
		{"a", "3.0.0", "main", -1},
		{"ab", "2.0.0", "main", -1},
		{"c", "1.0.0", "main", -1},
		{"a", "1.0.0", "", -1},
		{"", "1.0.0", "main", -1},
	} {
		if got := view.Find(l, x.name, v(x.version), x.source); got != x.place {
			t.Errorf("Find %q %q %q is %d, want %d", x.name, x.version, x.source, got, x.place)
		}
	}
	if got := view.Find(nil, "", version.Version{}, ""); got != -1 {
		t.Error("found in nothing:", got)
	}
}

// spared: a catalog with spare room behind its lists, all of which is told by whole.
func spared(cat []index.Index) []index.Index {
	cat = append(make([]index.Index, 0, len(cat)+3), cat...)
	for i, x := range cat {
		cat[i].Entries = append(make([]index.Entry, 0, len(x.Entries)+3), x.Entries...)
	}
	return cat
}

func whole(cat []index.Index) []index.Index {
	cat = slices.Clone(cat[:cap(cat)])
	for i, x := range cat {
		cat[i].Entries = slices.Clone(x.Entries[:cap(x.Entries)])
	}
	return cat
}

// Rule 4: nothing that is handed in is changed, its spare room neither; answers are new memory.
func TestNewMemory(t *testing.T) {
	p := rules(t, "claim a first odd dark\npin b 1.0.0\nhash c 0000000000000001\n")
	before, _ := p.Text()
	cat := spared(catalog(t, "dark a 2.0.0 1 -\ndark c 1.0.0 2 -\nodd a 1.0.0 1 -\nodd b 2.0.0 1 -\nodd b 1.0.0 1 -\n"))
	want := whole(cat)
	l := view.See(p, 0, cat)
	again := slices.Clone(l)
	fine := view.Adm(l)
	adm := slices.Clone(fine)
	of, in := view.Of(fine, "b"), view.In(fine, need("b", "*"))
	if !slices.Equal(of, in) || len(of) != 1 {
		t.Fatal(of, in)
	}
	of[0] = 7
	if in[0] == 7 || view.Of(fine, "b")[0] == 7 {
		t.Error("places are one memory")
	}
	clear(l[:cap(l)])
	if !reflect.DeepEqual(fine, adm) {
		t.Error("what may be taken is the memory of what is seen")
	}
	clear(fine[:cap(fine)])
	if got := view.See(p, 0, cat); !reflect.DeepEqual(got, again) {
		t.Errorf("%+v after %+v", got, again)
	}
	after, _ := p.Text()
	if !reflect.DeepEqual(whole(cat), want) || after != before {
		t.Error("what was handed in was changed")
	}
}

// Rule 4: the calls on lists.
func TestListsStay(t *testing.T) {
	list := cands(several)
	l := append(make([]view.Cand, 0, 16), list...)
	seen := make([]view.Seen, 0, 16)
	for _, x := range list {
		seen = append(seen, view.Seen{Cand: x})
	}
	want, wantSeen := slices.Clone(l[:16]), slices.Clone(seen[:16])
	fine := view.Adm(seen)
	clear(fine[:cap(fine)])
	view.Of(l, "a")
	view.In(l, need("a", "*"))
	view.Find(l, "a", v("1.0.0"), "far")
	if !reflect.DeepEqual(l[:16], want) || !reflect.DeepEqual(seen[:16], wantSeen) {
		t.Error("what was handed in was changed")
	}
}

// Rule 6: nothing makes a call panic.
func TestAnything(t *testing.T) {
	wild := index.Entry{Name: "a*", Version: version.Version{N: [3]int{-1, 1 << 40, 0}, Pre: "..-"}, Labels: 1 << 31, Yanked: true}
	odd := index.Entry{Name: "a", Version: wild.Version, Labels: 1 << 31}
	cat := []index.Index{{}, {Source: "main", Entries: []index.Entry{wild, odd, odd, {}}}, {Source: "main", Entries: []index.Entry{odd, {Name: "a"}}}, {Source: "none", Entries: []index.Entry{odd}}}
	for kind := -1; kind < 5; kind++ {
		p := policy.Policy{
			Sources: []policy.Source{{Name: "main", Open: true}, {Name: "main"}, {}},
			Claims:  []policy.Claim{{Glob: "*", Kind: kind, Sources: []string{"none", "", "main", "none", "main"}}},
			Pins:    []policy.Pin{{Name: "a", Version: wild.Version}},
			Hashes:  []policy.Hash{{Name: "b"}},
		}
		for _, rules := range []policy.Policy{p, {}, {Claims: p.Claims}, {Sources: p.Sources}} {
			for _, top := range []mark.Labels{0, mark.All, 1 << 31, 1<<32 - 1} {
				l := view.See(rules, top, cat)
				fine := view.Adm(l)
				view.Of(fine, "a")
				view.In(fine, index.Need{Name: "a", Range: spec.Range{Alts: [][]spec.Comp{nil, {{Op: -3}}}}})
				view.Find(fine, "a", wild.Version, "main")
			}
		}
	}
	if len(view.See(policy.Policy{}, mark.All, nil)) != 0 {
		t.Error("something of nothing")
	}
}
