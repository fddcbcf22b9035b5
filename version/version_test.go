package version_test

import (
	"math"
	"regexp"
	"strconv"
	"strings"
	"testing"

	"chandler/version"
)

// zero is the answer where there is nothing.
var zero version.Version

func release(a, b, c int) version.Version { return version.Version{N: [3]int{a, b, c}} }

func pre(a, b, c int, pre string) version.Version {
	return version.Version{N: [3]int{a, b, c}, Pre: pre}
}

func mustParse(t *testing.T, s string) version.Version {
	t.Helper()
	v, ok := version.Parse(s)
	if !ok {
		t.Fatal("no version:", s)
	}
	return v
}

func sign(n int) int {
	switch {
	case n < 0:
		return -1
	case n > 0:
		return 1
	}
	return 0
}

func TestLimits(t *testing.T) {
	if l := [3]int{version.MaxDigits, version.MaxParts, version.MaxPart}; l != [3]int{6, 4, 8} {
		t.Error(l)
	}
}

// P3.1, P3.2: texts, and what they are of.
func TestTexts(t *testing.T) {
	for text, want := range map[string]version.Version{
		"0.0.0":                            zero,
		"1.2.3":                            release(1, 2, 3),
		"10.20.30":                         release(10, 20, 30),
		"100000.0.9":                       release(100000, 0, 9),
		"999999.999999.999999":             release(999999, 999999, 999999),
		"0.0.0-0":                          pre(0, 0, 0, "0"),
		"1.2.0-rc.2":                       pre(1, 2, 0, "rc.2"),
		"1.2.0-rc.10":                      pre(1, 2, 0, "rc.10"),
		"1.2.3-a":                          pre(1, 2, 3, "a"),
		"1.2.3-z":                          pre(1, 2, 3, "z"),
		"1.2.3--":                          pre(1, 2, 3, "-"),
		"1.2.3---":                         pre(1, 2, 3, "--"),
		"1.2.3-a-b":                        pre(1, 2, 3, "a-b"),
		"1.2.3--1":                         pre(1, 2, 3, "-1"),
		"1.2.3-0-":                         pre(1, 2, 3, "0-"),
		"1.2.3-00-":                        pre(1, 2, 3, "00-"),
		"1.2.3-0a":                         pre(1, 2, 3, "0a"),
		"1.2.3-00a":                        pre(1, 2, 3, "00a"),
		"1.2.3-a0":                         pre(1, 2, 3, "a0"),
		"1.2.3-a.0.-.10":                   pre(1, 2, 3, "a.0.-.10"),
		"1.2.3-0.0.0.0":                    pre(1, 2, 3, "0.0.0.0"),
		"1.2.3-99999999":                   pre(1, 2, 3, "99999999"),
		"1.2.3-10000000":                   pre(1, 2, 3, "10000000"),
		"1.2.3-abcdefgh":                   pre(1, 2, 3, "abcdefgh"),
		"1.2.3-0000000a":                   pre(1, 2, 3, "0000000a"),
		"1.2.3---------":                   pre(1, 2, 3, "--------"),
		"0.0.1-abcdefgh.ijklmnop.qrstuvwx": pre(0, 0, 1, "abcdefgh.ijklmnop.qrstuvwx"),
		"999999.999999.999999-12345678.abcdefgh.--------.yz-09-yz": pre(999999, 999999, 999999, "12345678.abcdefgh.--------.yz-09-yz"),
	} {
		if got, ok := version.Parse(text); got != want || !ok {
			t.Errorf("Parse(%q) = %v, %v; want %v", text, got, ok, want)
		}
		if !want.Check() || want.Text() != text {
			t.Errorf("%v: %v, %q; want %q", want, want.Check(), want.Text(), text)
		}
	}
}

// P3.1: what is no text of a version.
func TestParseRefuses(t *testing.T) {
	for _, s := range []string{
		"", "0", "1.2", "1.2.", "1..3", ".2.3", "1.2.3.", ".1.2.3", "1.2.3.4", "1.2.3.4-a", "1.2-a", "1.2-a.3", "1.2-3", "..", "...", "a", "-", "-a", "-.-",
		"1.02.0", "01.2.0", "1.2.00", "00.0.0", "0.00.0", "1.2.03", "000001.0.0", "1000000.0.0", "0.1000000.0", "0.0.1000000", "0000000.0.0", "9999999999999999999999.0.0", "0.0.18446744073709551616",
		"+1.2.3", "-1.2.3", "1.+2.3", "1.-2.3", "1.2.+3", "1.2.-3", "1_0.0.0", "0x1.0.0", "1e1.0.0", "a.2.3", "1.a.3", "1.2.a", "1.2.3a", "v1.2.3", "=1.2.3", "*",
		" 1.2.3", "1.2.3 ", "1. 2.3", "1.2.3\n", "\x001.2.3", "1.2.3\x00", "1,2,3", "1.2.3+a", "1.2.3-a+b",
		"1.2.3-", "1.2.3-.", "1.2.3-a.", "1.2.3-.a", "1.2.3-a..b", "1.2.3-a.b.c.", "1.2.3-a.b.c.d.", "1.2.3-a.b.c.d.e", "1.2.3-0.0.0.0.0", "1.2.3-....",
		"1.2.3-abcdefghi", "1.2.3-a.abcdefghi", "1.2.3-a.b.c.abcdefghi", "1.2.3-123456789", "1.2.3-" + strings.Repeat("-", 9),
		"1.2.3-00", "1.2.3-01", "1.2.3-a.00", "1.2.3-a.01.b", "1.2.3-a.b.c.007", "1.2.3-00000000", "1.2.3-00000001",
		"1.2.3-A", "1.2.3-aZ", "1.2.3-a_b", "1.2.3-a b", "1.2.3-a/b", "1.2.3-a\xff", "1.2.3-ä", "1.2.3-٣", "٣.2.3", "1.2.3-a:", "1.2.3-`", "1.2.3-{", "1.2.3-a,b", "1.2.3-a|b", "1.2.3-a@", "1.2.3-a\n",
		strings.Repeat("1.", 1000), "1.2.3-" + strings.Repeat("a.", 1000), strings.Repeat("9", 1000), "1.2.3-" + strings.Repeat("a", 1000),
	} {
		if v, ok := version.Parse(s); ok || v != zero {
			t.Errorf("Parse(%q) = %v, %v", s, v, ok)
		}
	}
}

// form: what a version's text is like, but for noughts ahead and numbers of parts.
var form = regexp.MustCompile(`\A([0-9]{1,6})\.([0-9]{1,6})\.([0-9]{1,6})(?:-([0-9a-z-]{1,8}(?:\.[0-9a-z-]{1,8}){0,3}))?\z`)

var noughtAhead = regexp.MustCompile(`\A0[0-9]+\z`)

// plain parses in another way than the program.
func plain(s string) (version.Version, bool) {
	m := form.FindStringSubmatch(s)
	if m == nil {
		return zero, false
	}
	v := version.Version{Pre: m[4]}
	for _, part := range append(strings.Split(m[4], "."), m[1:4]...) {
		if noughtAhead.MatchString(part) {
			return zero, false
		}
	}
	for i := range 3 {
		v.N[i], _ = strconv.Atoi(m[1+i])
	}
	return v, true
}

// bothParse asks the program and plain, and the version's text, if there is one.
func bothParse(t *testing.T, s string) {
	t.Helper()
	want, good := plain(s)
	v, ok := version.Parse(s)
	if v != want || ok != good {
		t.Fatalf("Parse(%q) = %v, %v; want %v, %v", s, v, ok, want, good)
	}
	if ok && (!v.Check() || v.Text() != s) {
		t.Fatalf("%q: %v, %q", s, v.Check(), v.Text())
	}
}

// P3.1, P3.2: all short texts of some letters; each short Pre.
func TestParseAllShortTexts(t *testing.T) {
	const letters = "01.-a"
	texts := []string{""}
	for range 8 {
		var longer []string
		for _, x := range texts {
			for i := range len(letters) {
				longer = append(longer, x+letters[i:i+1])
			}
		}
		for _, x := range longer {
			bothParse(t, x)
			bothParse(t, "1.2.3-"+x)
		}
		texts = longer
	}
}

// P3.1: each byte in each place of a text, instead of what stands there, and between.
func TestParseEachByte(t *testing.T) {
	for _, good := range []string{"1.20.3", "0.0.0-a.10.b-1.0"} {
		bothParse(t, good)
		for i := range len(good) + 1 {
			for b := range 256 {
				bothParse(t, good[:i]+string([]byte{byte(b)})+good[i:])
				if i < len(good) {
					bothParse(t, good[:i]+string([]byte{byte(b)})+good[i+1:])
				}
			}
		}
	}
}

// P3.1, P3.2: each number that may be, at each place.
func TestNumbers(t *testing.T) {
	for n := 0; n <= 999999; n += 1 + n/50 {
		for place := range 3 {
			texts, v := [3]string{"7", "8", "9"}, release(7, 8, 9)
			texts[place], v.N[place] = strconv.Itoa(n), n
			text := strings.Join(texts[:], ".")
			if got, ok := version.Parse(text); !ok || got != v || v.Text() != text {
				t.Fatal(text, got, ok, v.Text())
			}
		}
	}
}

// P3.1: what may be a version, made by hand, and what may not, which has no text.
func TestCheck(t *testing.T) {
	for _, v := range []version.Version{
		zero, release(999999, 0, 0), release(0, 999999, 0), release(0, 0, 999999), pre(0, 0, 0, "a.b.c.d"), pre(1, 0, 0, "zzzzzzzz"), pre(1, 0, 0, "0"), pre(1, 0, 0, "0-"), pre(1, 0, 0, "-"),
	} {
		if !v.Check() || v.Text() == "" {
			t.Errorf("%v may be one, of %q", v, v.Text())
		}
		if got, ok := version.Parse(v.Text()); !ok || got != v {
			t.Errorf("%v is parsed as %v, %v", v, got, ok)
		}
	}
	bad := []version.Version{}
	for _, n := range []int{-1, -999999, 1000000, 1 << 40, math.MaxInt, math.MinInt} {
		bad = append(bad, release(n, 0, 0), release(0, n, 0), release(0, 0, n), pre(n, 1, 1, "a"), pre(1, 1, n, "a"))
	}
	for _, s := range []string{
		".", "a.", ".a", "a..b", "a.b.c.d.e", "a.b.c.d.", "....", "abcdefghi", "123456789", "a.b.c.abcdefghi", "00", "01", "a.00", "01.a", "a.b.c.01", "A", "a_", "a b", "a+b", " ", "a\x00", "ä", "\xff", "/", ":", "`", "{", "a,b", "-a|", strings.Repeat("a.", 99999), strings.Repeat("a", 99999),
	} {
		bad = append(bad, pre(1, 2, 3, s))
	}
	for _, v := range bad {
		if v.Check() || v.Text() != "" {
			t.Errorf("%v may not be one: %v, %q", v.N, v.Check(), v.Text())
		}
	}
}

// row: versions, each higher than all ahead of it.
func row() []string {
	return []string{
		"0.0.0-0", "0.0.0-a", "0.0.0", "0.0.1", "0.0.2", "0.0.10", "0.0.999999", "0.1.0-z", "0.1.0", "0.1.1", "0.2.0", "0.9.9", "0.10.0", "0.999999.999999",
		"1.0.0-0", "1.0.0-0.0", "1.0.0-0.0.0", "1.0.0-0.0.0.0", "1.0.0-0.a", "1.0.0-1", "1.0.0-2", "1.0.0-2.0", "1.0.0-2.z", "1.0.0-9", "1.0.0-10", "1.0.0-11", "1.0.0-99", "1.0.0-100", "1.0.0-9999999", "1.0.0-10000000", "1.0.0-99999999",
		"1.0.0--", "1.0.0--.0", "1.0.0---", "1.0.0--0", "1.0.0--a", "1.0.0-0-", "1.0.0-00a", "1.0.0-0a", "1.0.0-1-", "1.0.0-10a", "1.0.0-1a", "1.0.0-9a",
		"1.0.0-a", "1.0.0-a.0", "1.0.0-a.0.0", "1.0.0-a.0.0.9", "1.0.0-a.0.0.10", "1.0.0-a.0.0.a", "1.0.0-a.1", "1.0.0-a.9", "1.0.0-a.10", "1.0.0-a.-", "1.0.0-a.a", "1.0.0-a.a.a", "1.0.0-a.b", "1.0.0-a-", "1.0.0-a-a", "1.0.0-a0", "1.0.0-a00", "1.0.0-a10", "1.0.0-a2", "1.0.0-aa", "1.0.0-ab", "1.0.0-abcdefgh", "1.0.0-ac",
		"1.0.0-b", "1.0.0-beta", "1.0.0-beta.2", "1.0.0-beta.11", "1.0.0-beta2", "1.0.0-rc.1", "1.0.0-z", "1.0.0-zz", "1.0.0-zz.zz.zz.zz",
		"1.0.0", "1.0.1-0", "1.0.1", "1.1.0-0", "1.1.0", "1.2.0-rc.2", "1.2.0-rc.10", "1.2.0", "1.10.0", "2.0.0-a", "2.0.0", "9.0.0", "10.0.0-0", "10.0.0", "999999.0.0", "999999.999999.999999-z", "999999.999999.999999",
	}
}

// P3.1, P3.3: which of two is higher, for all pairs of the row; each is one with itself alone.
func TestCompare(t *testing.T) {
	l := row()
	for i, a := range l {
		for j, b := range l {
			if got := version.Compare(mustParse(t, a), mustParse(t, b)); got != sign(i-j) {
				t.Errorf("Compare(%s, %s) = %d", a, b, got)
			}
		}
	}
}

// Example 1 of the chapter, and the third one of the whole.
func TestExample(t *testing.T) {
	a, b, c := mustParse(t, "1.2.0-rc.2"), mustParse(t, "1.2.0-rc.10"), mustParse(t, "1.2.0")
	if version.Compare(a, b) != -1 || version.Compare(b, c) != -1 || version.Compare(a, c) != -1 || version.Compare(c, b) != 1 || version.Compare(b, b) != 0 {
		t.Error("1.2.0-rc.2, 1.2.0-rc.10, 1.2.0")
	}
	if v, ok := version.Parse("1.02.0"); ok || v != zero {
		t.Error(v)
	}
}

// someVersions: versions made of a row of numbers and parts, by a rule.
func someVersions(many int) []version.Version {
	parts := strings.Fields("0 1 2 9 10 90 99999999 a b aa a0 a- - -- -0 0a 00a 9a rc z-")
	seed := uint64(7)
	next := func(n int) int {
		seed = seed*6364136223846793005 + 1442695040888963407
		return int(seed>>33) % n
	}
	var out []version.Version
	for range many {
		v := release(next(2), next(2), next(2))
		for i := range next(5) {
			if i > 0 {
				v.Pre += "."
			}
			v.Pre += parts[next(len(parts))]
		}
		out = append(out, v)
	}
	return out
}

// P3.2: whatever they are made of, they are parsed as they were.
func TestTextsAreParsed(t *testing.T) {
	for _, v := range someVersions(3000) {
		if got, ok := version.Parse(v.Text()); !v.Check() || !ok || got != v {
			t.Fatal(v, v.Check(), got, ok)
		}
		bothParse(t, v.Text())
	}
}

// P3.3: an order: one way or the other, the same if they are one, and from version to version.
func TestCompareIsAnOrder(t *testing.T) {
	l := someVersions(150)
	for _, a := range l {
		for _, b := range l {
			ab := version.Compare(a, b)
			if ab != -version.Compare(b, a) || ab*ab > 1 || (ab == 0) != (a == b) {
				t.Fatal(a, b, ab, version.Compare(b, a))
			}
			for _, c := range l {
				if ab <= 0 && version.Compare(b, c) <= 0 && version.Compare(a, c) > 0 {
					t.Fatal(a, b, c)
				}
			}
		}
	}
}

// P3.1: have both the same numbers? What stands behind them doesn't matter.
func TestTwin(t *testing.T) {
	l := []version.Version{zero, release(1, 2, 3), release(1, 2, 4), release(1, 3, 3), release(2, 2, 3), release(3, 2, 1), release(999999, 2, 3)}
	for i, a := range l {
		for j, b := range l {
			for _, p := range []string{"", "a", "a.1"} {
				for _, q := range []string{"", "a", "b"} {
					a.Pre, b.Pre = p, q
					if version.Twin(a, b) != (i == j) {
						t.Error(a, b)
					}
				}
			}
		}
	}
}

// P3.1: the next release, place by place.
func TestNext(t *testing.T) {
	for _, c := range []struct {
		v    version.Version
		want [3]version.Version
	}{
		{zero, [3]version.Version{release(1, 0, 0), release(0, 1, 0), release(0, 0, 1)}},
		{release(1, 2, 3), [3]version.Version{release(2, 0, 0), release(1, 3, 0), release(1, 2, 4)}},
		{release(9, 9, 9), [3]version.Version{release(10, 0, 0), release(9, 10, 0), release(9, 9, 10)}},
		{pre(1, 2, 3, "a.1"), [3]version.Version{release(2, 0, 0), release(1, 3, 0), release(1, 2, 4)}},
		{pre(0, 0, 0, "0"), [3]version.Version{release(1, 0, 0), release(0, 1, 0), release(0, 0, 1)}},
		{release(0, 5, 0), [3]version.Version{release(1, 0, 0), release(0, 6, 0), release(0, 5, 1)}},
		{release(999999, 999999, 999999), [3]version.Version{release(1000000, 0, 0), release(999999, 1000000, 0), release(999999, 999999, 1000000)}},
	} {
		was := c.v
		for place, want := range c.want {
			if got := c.v.Next(place); got != want || c.v != was {
				t.Errorf("%v.Next(%d) = %v, want %v", c.v, place, got, want)
			}
		}
		for _, place := range []int{-1, 3, 4, math.MinInt, math.MaxInt} {
			if got := c.v.Next(place); got != zero {
				t.Errorf("%v.Next(%d) = %v", c.v, place, got)
			}
		}
	}
}

// P3.1: what Next answers may be no version, but is held against others by its numbers.
func TestNextIsCompared(t *testing.T) {
	const most = 999999
	top := release(most, most, most)
	for place, next := range []version.Version{top.Next(0), top.Next(1), top.Next(2)} {
		if next.Check() || next.Text() != "" {
			t.Error(place, next.Text())
		}
		for _, s := range row() {
			v := mustParse(t, s)
			if version.Compare(v, next) != -1 || version.Compare(next, v) != 1 || version.Twin(v, next) {
				t.Error(s, next)
			}
		}
		if version.Compare(next, next) != 0 || !version.Twin(next, next) {
			t.Error(next)
		}
	}
	l := []version.Version{release(0, most, most), release(0, most, 0).Next(1), release(1, 0, 0), release(1, most, most), release(1, most, most).Next(2), release(1, most, 0).Next(1), pre(2, 0, 0, "0"), release(2, 0, 0), release(most, 7, 7), release(most, 7, 7).Next(0), release(most, 7, 7).Next(0).Next(2), release(most, 7, 7).Next(0).Next(0)}
	for i, a := range l {
		for j, b := range l {
			if version.Compare(a, b) != sign(i-j) {
				t.Error(a, b, version.Compare(a, b))
			}
		}
	}
}

// P3.1: Next lies above all that has the same numbers up to the place, and no release lies between.
func TestNextIsLeast(t *testing.T) {
	l := someVersions(300)
	for _, v := range l {
		for place := range 3 {
			next := v.Next(place)
			if version.Compare(v, next) != -1 || next.Pre != "" {
				t.Fatal(v, next)
			}
			for _, x := range l {
				same := true
				for i := range place + 1 {
					same = same && x.N[i] == v.N[i]
				}
				if same && version.Compare(x, next) != -1 || !same && x.Pre == "" && version.Compare(x, v) > 0 && version.Compare(x, next) < 0 {
					t.Fatal(v, place, next, x)
				}
			}
		}
	}
}

// Rule 6: whatever a version is made of, each call ends and answers.
func TestOddVersionsAreAnswered(t *testing.T) {
	numbers := []int{math.MinInt, -1, 0, 999999, 1000000, math.MaxInt}
	texts := []string{"", ".", "..", "a", "a.", ".a", "007", "\xff", "A.B", strings.Repeat(".", 50), strings.Repeat("9", 50)}
	var l []version.Version
	for _, n := range numbers {
		for _, s := range texts {
			l = append(l, pre(n, 0, 1, s), pre(1, 1, n, s))
		}
	}
	for _, a := range l {
		if a.Check() != (a.Text() != "") {
			t.Error(a)
		}
		for place := -1; place < 4; place++ {
			a.Next(place)
		}
		for _, b := range l {
			if version.Twin(a, b) != (a.N == b.N) || version.Compare(a, b)*version.Compare(a, b) > 1 {
				t.Error(a, b)
			}
		}
	}
}
