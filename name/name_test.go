package name_test

import (
	"regexp"
	"slices"
	"strings"
	"testing"

	"chandler/name"
)

const (
	plainForm = `[a-z](?:[a-z0-9-]{0,18}[a-z0-9])?`
	openForm  = `[a-z][a-z0-9-]{0,19}`
	nameForm  = `(?:@` + plainForm + `/)?` + plainForm
	globForm  = nameForm + `|\*|` + openForm + `\*|@` + plainForm + `/(?:` + openForm + `)?\*`
)

// What plain names, names and patterns are like, told in another way than the program does.
var (
	plainText = regexp.MustCompile(`\A(?:` + plainForm + `)\z`)
	nameText  = regexp.MustCompile(`\A(?:` + nameForm + `)\z`)
	globText  = regexp.MustCompile(`\A(?:` + globForm + `)\z`)
	splitText = regexp.MustCompile(`(?s)\A@([^/]*)/(.*)\z`)
)

func TestMax(t *testing.T) {
	if name.Max != 20 {
		t.Error(name.Max)
	}
}

// P5.1: plain names, which are names and patterns, too.
func TestPlain(t *testing.T) {
	for _, s := range []string{"a", "z", "a0", "z9", "ab", "a-b", "a--b", "a-0", "core-x", "x86-64", "a-b-c-d", "abcdefghijklmnopqrst", "a------------------z", "a0000000000000000009"} {
		if !name.Plain(s) || !name.Check(s) || !name.Glob(s) {
			t.Errorf("%q: %v, %v, %v", s, name.Plain(s), name.Check(s), name.Glob(s))
		}
	}
	for _, s := range []string{"@a/b", "@lib/core-x", "@a0-b/c-0"} {
		if name.Plain(s) {
			t.Errorf("%q is plain", s)
		}
	}
}

// P5.1: names with a scope, which are patterns, too.
func TestCheck(t *testing.T) {
	long := "abcdefghijklmnopqrst"
	for _, s := range []string{"@a/b", "@lib/a", "@lib/core-x", "@a-b/c", "@a0/b9", "@" + long + "/" + long, "@a/" + long, "@" + long + "/a", "@a/a"} {
		if !name.Check(s) || !name.Glob(s) {
			t.Errorf("%q: %v, %v", s, name.Check(s), name.Glob(s))
		}
	}
}

// P5.1: what is neither a name nor a pattern.
func TestNothing(t *testing.T) {
	long := "abcdefghijklmnopqrst"
	for _, s := range []string{
		"", "-", "0", "9a", "-a", "a-", "0-a", "a_b", "a.b", "a b", " a", "a ", "a\n", "\na", "\x00", "a\x00", "A", "aB", "Z", "`", "{", "a/", "a:", "ä", "a\xff", "\xff", "١", long + "u", long + "-",
		"@", "/", "@/", "@a", "@a/", "@/a", "a/b", "/a", "a/", "@a/b/", "@a/b/c", "@a//b", "@@a/b", "@a/@b", "a@b/c", "@a@/b", "@-a/b", "@a-/b", "@a/-b", "@a/b-", "@0/a", "@a/0", "@a/b@", "@A/b", "@a/B", "@a /b", "@a/ b", " @a/b", "@a/b ", "@a/b\n", "@\xff/a", "@a/\xff",
		"@" + long + "u/a", "@a/" + long + "u", "@" + long + "/" + long + "u", "a@b",
	} {
		refused(t, s)
		if name.Glob(s) || name.Weight(s) != -1 || name.Match(s, s) || name.Longest(s, "*", s) != -1 {
			t.Errorf("%q: %v, %d, %v, %d", s, name.Glob(s), name.Weight(s), name.Match(s, s), name.Longest(s, "*", s))
		}
	}
}

// refused: what is no name fits nothing.
func refused(t *testing.T, s string) {
	t.Helper()
	if name.Plain(s) || name.Check(s) || name.Match("*", s) || name.Longest(s, "*") != -1 {
		t.Errorf("%q: %v, %v, %v, %d", s, name.Plain(s), name.Check(s), name.Match("*", s), name.Longest(s, "*"))
	}
}

// P5.1: patterns with a star, which are no names.
func TestGlob(t *testing.T) {
	long := "abcdefghijklmnopqrst"
	for _, s := range []string{"*", "a*", "a-*", "a0*", "core-*", "a--*", long + "*", long[:19] + "-*", "@lib/*", "@lib/a*", "@lib/core-*", "@a-b/c*", "@" + long + "/*", "@" + long + "/" + long + "*", "@a/" + long[:19] + "-*"} {
		refused(t, s)
		if !name.Glob(s) {
			t.Errorf("%q is no pattern", s)
		}
	}
	for _, s := range []string{
		"**", "*a", "a**", "a*b", "*-", "-*", "0*", "A*", "a_*", "a *", "* ", " *", "*\n", "a*\n", "\xff*", "\x00*", "?", "a?", "ä*", long + "u*", long + "-*",
		"@*", "@a*", "@lib*", "@/*", "@/a*", "@*/a", "@a*/b", "@*/*", "@a*/*", "@a-/*", "@-a/*", "@0/*", "@A/*", "@a/**", "@a/-*", "@a/0*", "@a/b*c", "@a/*b", "@a/b**", "@a/B*", "@a//*", "@a/b/*", "@@a/*", "a/*", "/*", "a/b*", "*/*", "*@a/b",
		"@" + long + "u/*", "@" + long + "u/a*", "@a/" + long + "u*", "@" + long + "-/*",
	} {
		refused(t, s)
		if name.Glob(s) || name.Weight(s) != -1 || name.Match(s, "a") || name.Match(s, "@a/b") || name.Longest("a", s) != -1 || name.Longest("@a/b", s) != -1 {
			t.Errorf("%q is a pattern", s)
		}
	}
}

// P5.1: each length, of plain names, of scopes, of what stands behind them, of beginnings.
func TestLengths(t *testing.T) {
	for n := range 60 {
		s, ok := strings.Repeat("q", n), n >= 1 && n <= 20
		if name.Plain(s) != ok || name.Check(s) != ok || name.Glob(s) != ok {
			t.Error(n, name.Plain(s), name.Check(s), name.Glob(s))
		}
		if name.Check("@"+s+"/x") != ok || name.Glob("@"+s+"/x") != ok || name.Glob("@"+s+"/*") != ok || name.Glob("@"+s+"/x*") != ok {
			t.Error(n, "bytes of a scope")
		}
		if name.Check("@x/"+s) != ok || name.Glob("@x/"+s) != ok {
			t.Error(n, "bytes behind a scope")
		}
		if name.Glob(s+"*") != (n <= 20) || name.Glob("@x/"+s+"*") != (n <= 20) {
			t.Error(n, "bytes ahead of a star")
		}
	}
	for _, s := range []string{strings.Repeat("a", 1<<20), "@" + strings.Repeat("a", 1<<20) + "/a", "@a/" + strings.Repeat("a", 1<<20), "@" + strings.Repeat("/", 1<<20), strings.Repeat("@a/", 1<<18), strings.Repeat("*", 1<<20)} {
		refused(t, s)
		if name.Glob(s) || name.Glob(s+"*") || name.Weight(s) != -1 {
			t.Error("a pattern of", len(s), "bytes")
		}
	}
}

func TestSplit(t *testing.T) {
	for s, want := range map[string][2]string{
		"@lib/core-x": {"lib", "core-x"},
		"@lib/*":      {"lib", "*"},
		"@lib/":       {"lib", ""},
		"@/a":         {"", "a"},
		"@/":          {"", ""},
		"@a/b/c":      {"a", "b/c"},
		"@a//":        {"a", "/"},
		"@//a":        {"", "/a"},
		"@@a/b":       {"@a", "b"},
		"@A _/\xff\n": {"A _", "\xff\n"},
		"":            {"", ""},
		"a":           {"", "a"},
		"@":           {"", "@"},
		"@a":          {"", "@a"},
		"@@":          {"", "@@"},
		"/":           {"", "/"},
		"/@":          {"", "/@"},
		"a/b":         {"", "a/b"},
		"a@b/c":       {"", "a@b/c"},
		" @a/b":       {"", " @a/b"},
		"*":           {"", "*"},
	} {
		if scope, rest := name.Split(s); scope != want[0] || rest != want[1] {
			t.Errorf("Split(%q) = %q, %q; want %q", s, scope, rest, want)
		}
	}
}

// asked: all that the program says of one text is what the forms say.
func asked(t *testing.T, s string) {
	t.Helper()
	if name.Plain(s) != plainText.MatchString(s) || name.Check(s) != nameText.MatchString(s) || name.Glob(s) != globText.MatchString(s) {
		t.Fatalf("%q: %v, %v, %v", s, name.Plain(s), name.Check(s), name.Glob(s))
	}
	if got, want := name.Weight(s), weigh(s); got != want {
		t.Fatalf("Weight(%q) = %d; want %d", s, got, want)
	}
	wantScope, wantRest := "", s
	if m := splitText.FindStringSubmatch(s); m != nil {
		wantScope, wantRest = m[1], m[2]
	}
	if scope, rest := name.Split(s); scope != wantScope || rest != wantRest {
		t.Fatalf("Split(%q) = %q, %q", s, scope, rest)
	}
}

// weigh: Weight, counted in another way.
func weigh(s string) int {
	switch {
	case !globText.MatchString(s):
		return -1
	case strings.Contains(s, "*"):
		return 2*len(s) - 2
	}
	return 2*len(s) + 1
}

// texts: all rows of some pieces, at most so many.
func texts(pieces []string, most int) []string {
	all, last := []string{""}, []string{""}
	for range most {
		var longer []string
		for _, s := range last {
			for _, p := range pieces {
				longer = append(longer, s+p)
			}
		}
		all, last = append(all, longer...), longer
	}
	return all
}

// P5.1: all short texts.
func TestAllShortTexts(t *testing.T) {
	for _, s := range texts([]string{"a", "0", "-", "@", "/", "*"}, 7) {
		asked(t, s)
	}
}

// P5.1: each byte in each place of a text, instead of what stands there, and between.
func TestEachByte(t *testing.T) {
	for _, good := range []string{"ab", "a-b0", "@lib/core-x", "@lib/core-*", "@l/*", "*", "a*", "abcdefghijklmnopqrst", "abcdefghijklmnopqrs-*"} {
		asked(t, good)
		for i := range len(good) + 1 {
			for b := range 256 {
				asked(t, good[:i]+string([]byte{byte(b)})+good[i:])
				if i < len(good) {
					asked(t, good[:i]+string([]byte{byte(b)})+good[i+1:])
				}
			}
		}
	}
}

func TestMatch(t *testing.T) {
	for _, c := range []struct {
		glob, s string
		fits    bool
	}{
		{"*", "@lib/core-x", true}, {"@lib/*", "@lib/core-x", true}, {"@lib/core-*", "@lib/core-x", true}, {"@lib/core-x", "@lib/core-x", true},
		{"@lib/core-x*", "@lib/core-x", true}, {"@lib/core-xy", "@lib/core-x", false}, {"@lib/core", "@lib/core-x", false}, {"@lib/core-x", "@lib/core", false}, {"@lib/core-x*", "@lib/core", false},
		{"@li/*", "@lib/a", false}, {"@lib/*", "@lib-x/a", false}, {"@lib/*", "lib", false}, {"@lib/*", "a", false}, {"lib", "@lib/a", false}, {"lib*", "@lib/a", false}, {"core-*", "@lib/core-x", false}, {"core-x", "@lib/core-x", false},
		{"*", "a", true}, {"a*", "a", true}, {"a*", "ab", true}, {"a*", "a-b", true}, {"a*", "b", false}, {"a*", "ba", false}, {"a-*", "a", false}, {"a-*", "a-b", true}, {"a", "a", true}, {"a", "ab", false}, {"ab", "a", false},
		{"*", "", false}, {"*", "*", false}, {"*", "a*", false}, {"a*", "a*", false}, {"*", "a-", false}, {"*", "A", false}, {"*", "@a", false}, {"@a/*", "@a/", false}, {"@a/*", "@a/*", false}, {"", "", false}, {"", "a", false}, {"-", "-", false},
		{"@*", "@a/b", false}, {"@a*", "@a/b", false}, {"@a*", "@ab/c", false}, {"a**", "a", false}, {"*a", "a", false}, {"*a", "ba", false}, {"a*b", "ab", false}, {"A*", "a", false}, {"a*", "A", false},
		{"abcdefghijklmnopqrst*", "abcdefghijklmnopqrst", true}, {"abcdefghijklmnopqrs*", "abcdefghijklmnopqrst", true}, {"a*", "abcdefghijklmnopqrstu", false}, {"abcdefghijklmnopqrstu*", "abcdefghijklmnopqrstu", false},
	} {
		if name.Match(c.glob, c.s) != c.fits {
			t.Errorf("Match(%q, %q) = %v", c.glob, c.s, !c.fits)
		}
	}
}

func TestWeight(t *testing.T) {
	for glob, want := range map[string]int{
		"*": 0, "a*": 2, "a": 3, "ab*": 4, "ab": 5, "a-*": 4, "@lib/*": 10, "@lib/a*": 12, "@lib/a": 13, "@lib/core-*": 20, "@lib/core-x": 23,
		"abcdefghijklmnopqrst*": 40, "abcdefghijklmnopqrst": 41, "@abcdefghijklmnopqrst/abcdefghijklmnopqrst": 85, "@abcdefghijklmnopqrst/abcdefghijklmnopqrst*": 84,
		"": -1, "**": -1, "@": -1, "@*": -1, "a-": -1, "*a": -1, "A*": -1,
	} {
		if got := name.Weight(glob); got != want {
			t.Errorf("Weight(%q) = %d; want %d", glob, got, want)
		}
	}
}

func TestLongest(t *testing.T) {
	for _, c := range []struct {
		s     string
		globs string
		want  int
	}{
		{"@lib/core-x", "* @lib/* @lib/core-*", 2}, {"@lib/core-x", "@lib/core-* @lib/* *", 0}, {"@lib/core-x", "* @lib/core-* @lib/core-x @lib/*", 2}, {"@lib/core-x", "@lib/core-x* @lib/core-x", 1}, {"@lib/core-x", "@lib/core-x @lib/core-x*", 0},
		{"@lib/core-x", "core-x lib core-* lib*", -1}, {"@lib/core-x", "@lib @lib* @* * @lib/", 3}, {"@lib/core-x", "@lib/core-xy @lib/core", -1},
		{"ab", "", -1}, {"ab", "*", 0}, {"ab", "* *", 0}, {"ab", "b ab ab", 1}, {"ab", "* a* ab* a* ab*", 2}, {"ab", "b* a b", -1}, {"ab", "abc* *", 1}, {"ab", "**** ab-*** a*b * abcdefghijklmnopqrstuvw*", 3}, {"ab", "** *b AB", -1},
		{"", "*", -1}, {"*", "*", -1}, {"a*", "a* *", -1}, {"a-", "a-* *", -1}, {"@a/", "@a/* *", -1},
	} {
		globs := strings.Fields(c.globs)
		handed := slices.Clone(globs)
		if got := name.Longest(c.s, handed...); got != c.want || !slices.Equal(globs, handed) {
			t.Errorf("Longest(%q, %q) = %d; want %d", c.s, c.globs, got, c.want)
		}
	}
	if name.Longest("a") != -1 || name.Longest("a", nil...) != -1 || name.Longest("a", "") != -1 || name.Longest("") != -1 {
		t.Error("of no patterns one is the longest")
	}
	many := slices.Repeat([]string{"*", "", "a", "b"}, 100000)
	if got := name.Longest("b", many...); got != 3 {
		t.Error("of many patterns", got)
	}
}

// short: all short names and patterns of few bytes.
func short() (names, globs []string) {
	for _, s := range texts([]string{"a", "b", "-", "@a/", "*"}, 5) {
		if nameText.MatchString(s) {
			names = append(names, s)
		}
		if globText.MatchString(s) {
			globs = append(globs, s)
		}
	}
	return names, globs
}

// plainFits: Match of a name and a pattern, told by all of a name's beginnings.
func plainFits(glob, s string) bool {
	for i := range len(s) + 1 {
		if glob == s[:i]+"*" {
			return true
		}
	}
	return glob == s
}

// P5.1, P5.2: all short names and patterns: what fits; of two that fit one says more; Longest tells it, whichever is the first.
func TestOneSaysMore(t *testing.T) {
	names, globs := short()
	if len(names) < 100 || len(globs) < 200 {
		t.Fatal(len(names), len(globs))
	}
	for _, s := range names {
		var fitting []string
		for _, glob := range globs {
			if fits := plainFits(glob, s); name.Match(glob, s) != fits {
				t.Fatalf("Match(%q, %q) = %v", glob, s, !fits)
			} else if fits {
				fitting = append(fitting, glob)
			}
		}
		heaviest := 0
		for i, x := range fitting {
			for j, y := range fitting {
				if i != j && name.Weight(x) == name.Weight(y) {
					t.Fatalf("%q fits %q and %q, and none says more", s, x, y)
				}
			}
			if name.Weight(x) > name.Weight(fitting[heaviest]) {
				heaviest = i
			}
		}
		if fitting[heaviest] != s || name.Longest(s, fitting...) != heaviest {
			t.Fatalf("%q: %q says most, not place %d of %q", s, fitting[heaviest], name.Longest(s, fitting...), fitting)
		}
		longestOfTwo(t, s, fitting)
	}
}

func longestOfTwo(t *testing.T, s string, fitting []string) {
	t.Helper()
	for _, x := range fitting {
		for _, y := range fitting {
			want := 0
			if weigh(y) > weigh(x) {
				want = 1
			}
			if got := name.Longest(s, x, y); got != want {
				t.Fatalf("Longest(%q, %q, %q) = %d", s, x, y, got)
			}
			if got := name.Longest(s, "c*", x, "", y, "a*b", x); got != 1+2*want {
				t.Fatalf("of six, Longest(%q, %q, %q) = %d", s, x, y, got)
			}
		}
	}
}
