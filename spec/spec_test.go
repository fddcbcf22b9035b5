package spec_test

import (
	"math"
	"reflect"
	"regexp"
	"slices"
	"strings"
	"testing"

	"chandler/api"
	"chandler/spec"
	"chandler/version"
)

func release(a, b, c int) version.Version { return version.Version{N: [3]int{a, b, c}} }

func pre(a, b, c int, pre string) version.Version {
	return version.Version{N: [3]int{a, b, c}, Pre: pre}
}

func rangeOf(alts ...[]spec.Comp) spec.Range { return spec.Range{Alts: alts} }

func comp(op int, v version.Version) spec.Comp { return spec.Comp{Op: op, V: v} }

var (
	one     = release(1, 0, 0)
	two     = release(2, 0, 0)
	none    spec.Range
	anyComp = spec.Comp{Op: spec.Any}
)

func mustVersion(t *testing.T, s string) version.Version {
	t.Helper()
	v, ok := version.Parse(s)
	if !ok {
		t.Fatal("no version:", s)
	}
	return v
}

func mustParse(t *testing.T, s string) spec.Range {
	t.Helper()
	r, ok := spec.Parse(s)
	if !ok {
		t.Fatal("no range:", s)
	}
	return r
}

func TestNumbers(t *testing.T) {
	ops := [9]int{spec.Eq, spec.Ne, spec.Lt, spec.Le, spec.Gt, spec.Ge, spec.Near, spec.Same, spec.Any}
	if ops != [9]int{0, 1, 2, 3, 4, 5, 6, 7, 8} || spec.MaxAlts != 4 || spec.MaxComps != 4 {
		t.Error(ops, spec.MaxAlts, spec.MaxComps)
	}
}

// P4.1, P4.2: texts, and what they are of.
func TestTexts(t *testing.T) {
	for text, want := range map[string]spec.Range{
		"=1.0.0":                      rangeOf([]spec.Comp{comp(spec.Eq, one)}),
		"!=1.0.0":                     rangeOf([]spec.Comp{comp(spec.Ne, one)}),
		"<1.0.0":                      rangeOf([]spec.Comp{comp(spec.Lt, one)}),
		"<=1.0.0":                     rangeOf([]spec.Comp{comp(spec.Le, one)}),
		">1.0.0":                      rangeOf([]spec.Comp{comp(spec.Gt, one)}),
		">=1.0.0":                     rangeOf([]spec.Comp{comp(spec.Ge, one)}),
		"~1.0.0":                      rangeOf([]spec.Comp{comp(spec.Near, one)}),
		"^1.0.0":                      rangeOf([]spec.Comp{comp(spec.Same, one)}),
		"*":                           rangeOf([]spec.Comp{anyComp}),
		"^0.2.1":                      rangeOf([]spec.Comp{comp(spec.Same, release(0, 2, 1))}),
		">=1.0.0-b,<2.0.0":            rangeOf([]spec.Comp{comp(spec.Ge, pre(1, 0, 0, "b")), comp(spec.Lt, two)}),
		"=1.0.0|=2.0.0":               rangeOf([]spec.Comp{comp(spec.Eq, one)}, []spec.Comp{comp(spec.Eq, two)}),
		"*|*|*|*":                     rangeOf([]spec.Comp{anyComp}, []spec.Comp{anyComp}, []spec.Comp{anyComp}, []spec.Comp{anyComp}),
		"*,*,*,*":                     rangeOf([]spec.Comp{anyComp, anyComp, anyComp, anyComp}),
		"*,!=1.0.0|~2.0.0,*,^2.0.0":   rangeOf([]spec.Comp{anyComp, comp(spec.Ne, one)}, []spec.Comp{comp(spec.Near, two), anyComp, comp(spec.Same, two)}),
		"=0.0.0":                      rangeOf([]spec.Comp{comp(spec.Eq, release(0, 0, 0))}),
		"=1.0.0--.--":                 rangeOf([]spec.Comp{comp(spec.Eq, pre(1, 0, 0, "-.--"))}),
		"<999999.999999.999999-z.0.a": rangeOf([]spec.Comp{comp(spec.Lt, pre(999999, 999999, 999999, "z.0.a"))}),
		"=1.0.0,=1.0.0|=1.0.0":        rangeOf([]spec.Comp{comp(spec.Eq, one), comp(spec.Eq, one)}, []spec.Comp{comp(spec.Eq, one)}),
		">2.0.0,<1.0.0":               rangeOf([]spec.Comp{comp(spec.Gt, two), comp(spec.Lt, one)}),
	} {
		got, ok := spec.Parse(text)
		if !ok || !reflect.DeepEqual(got, want) {
			t.Errorf("Parse(%q) = %v, %v; want %v", text, got, ok, want)
		}
		if !want.Check() || want.Text() != text {
			t.Errorf("%v: %v, %q; want %q", want, want.Check(), want.Text(), text)
		}
	}
}

// P4.1: what is no text of a range.
func TestParseRefuses(t *testing.T) {
	for _, s := range []string{
		"", "|", ",", "1.0.0", "=", "!", "!=", "<", "<=", ">", ">=", "~", "^", "**", "*1.0.0", "*0.0.0", "=*", "^*", "* ", " *", "*\n", "x", "=x",
		"==1.0.0", "!1.0.0", "!!=1.0.0", "=!1.0.0", "<>1.0.0", "<<1.0.0", ">>1.0.0", "=<1.0.0", "=>1.0.0", "<==1.0.0", ">==1.0.0", "<=>1.0.0", "!=<1.0.0", "~=1.0.0", "~>1.0.0", "^=1.0.0", "^~1.0.0", "~~1.0.0", "^^1.0.0", "!~1.0.0",
		"=1.0", "=1.0.0.0", "=01.0.0", "=1.0.0-", "=1.0.0-00", "=1.0.0-A", "=1000000.0.0", "= 1.0.0", " =1.0.0", "=1.0.0 ", "=1.0.0\n", "=v1.0.0", "1.0.0=", "=1.0.0=", "=1.0.0=2.0.0", "=1.0.0<2.0.0",
		"=1.0.0|", "|=1.0.0", "=1.0.0||=2.0.0", "=1.0.0,", ",=1.0.0", "=1.0.0,,=2.0.0", "=1.0.0,|=2.0.0", "=1.0.0|,=2.0.0", "=1.0.0, =2.0.0", "=1.0.0 | =2.0.0", "=1.0.0;=2.0.0", "=1.0.0&=2.0.0", "=1.0.0,2.0.0", "=1.0.0|2.0.0", "=1.0.0|=x", "=1.0.0,=x", "=x|=1.0.0", "=x,=1.0.0",
		"*|*|*|*|*", "*,*,*,*,*", "*|*,*,*,*,*", "*,*,*,*,*|*", "*|*|*|*|", "*,*,*,*,", "*,*|*,*|*,*|*,*|*,*",
		strings.Repeat("|", 1000), strings.Repeat(",", 1000), strings.Repeat("*,", 1000) + "*", strings.Repeat("=", 1000), "=1.0.0\x00", "\xff", "=1.0.0-\xff", "＝1.0.0",
	} {
		if r, ok := spec.Parse(s); ok || len(r.Alts) != 0 {
			t.Errorf("Parse(%q) = %v, %v", s, r, ok)
		}
	}
}

const (
	versionForm = `(?:0|[1-9][0-9]{0,5})(?:\.(?:0|[1-9][0-9]{0,5})){2}(?:-[0-9a-z-]{1,8}(?:\.[0-9a-z-]{1,8}){0,3})?`
	compForm    = `(?:(?:=|!=|<|<=|>|>=|~|\^)` + versionForm + `|\*)`
	altForm     = compForm + `(?:,` + compForm + `){0,3}`
)

// form: what a range's text is like (but for its length, and parts with noughts ahead).
var form = regexp.MustCompile(`\A` + altForm + `(?:\|` + altForm + `){0,3}\z`)

// P4.1, P4.2: all short rows of some pieces: whether they are a range, and its text.
func TestParseAllShortTexts(t *testing.T) {
	pieces := strings.Fields("= ! < > ~ ^ * | , 1.0.0 0.0.0-a")
	texts := []string{""}
	for range 5 {
		var longer []string
		for _, x := range texts {
			for _, p := range pieces {
				longer = append(longer, x+p)
			}
		}
		for _, x := range longer {
			bothParse(t, x)
			bothParse(t, "*|<=1.0.0,"+x)
		}
		texts = longer
	}
}

// bothParse asks the program and form, and the range's text, if there is one.
func bothParse(t *testing.T, s string) {
	t.Helper()
	r, ok := spec.Parse(s)
	if ok != (form.MatchString(s) && len(s) <= api.MaxWord) || !ok && len(r.Alts) != 0 {
		t.Fatalf("Parse(%q) = %v, %v", s, r, ok)
	}
	if ok && (!r.Check() || r.Text() != s) {
		t.Fatalf("%q: %v, %q", s, r.Check(), r.Text())
	}
}

// P4.1: each byte in each place of a text, instead of what stands there, and between.
func TestParseEachByte(t *testing.T) {
	const good = "<=1.0.0,!=2.0.0-a|*|~3.0.0"
	bothParse(t, good)
	for i := range len(good) + 1 {
		for b := range 256 {
			bothParse(t, good[:i]+string([]byte{byte(b)})+good[i:])
			if i < len(good) {
				bothParse(t, good[:i]+string([]byte{byte(b)})+good[i+1:])
			}
		}
	}
}

// P4.1: so many alternatives, comparisons, and bytes, and not one more; a range made by hand likewise.
func TestBounds(t *testing.T) {
	const long = "=999999.999999.999999-abcdefgh.abcdefgh|!=1.0.0-abcdefgh,=1.0.0-abcdefgh,~1.0.0"
	if len(long) != api.MaxWord-1 {
		t.Fatal(len(long))
	}
	for text, ok := range map[string]bool{
		long:       true,
		long + "0": false, // 1.0.00 is no version
		strings.Replace(long, "~1.0.0", "~11.0.0", 1):           true,
		strings.Replace(long, "~1.0.0", "~111.0.0", 1):          false,
		strings.Replace(long, "~1.0.0", ">=1.0.0", 1):           true,
		strings.Replace(long, "~1.0.0", ">=11.0.0", 1):          false,
		strings.Replace(long, "~1.0.0", "*,*,*", 1):             false, // five comparisons
		strings.Replace(long, "~1.0.0", "~1.0.0|*", 1):          false,
		strings.Replace(long, ",~1.0.0", "|*,*|*,*", 1):         true,
		strings.Replace(long, ",~1.0.0", "|*,*|*,*,*", 1):       false,
		strings.Replace(long, ",~1.0.0", "|*|*|*", 1):           false, // five alternatives
		strings.Replace(long, ",~1.0.0", "|*|*", 1):             true,
		"*,*,*,*|*,*,*,*|*,*,*,*|*,*,*,*":                       true,
		"=1.0.0,=1.0.0,=1.0.0,=1.0.0|=1.0.0,=1.0.0,=1.0.0,=1.0": false,
	} {
		if r, got := spec.Parse(text); got != ok || ok && r.Text() != text {
			t.Errorf("Parse(%q), of %d bytes: %v, %v", text, len(text), r, got)
		}
	}
	full, top := mustParse(t, strings.Replace(long, "~1.0.0", "~11.0.0", 1)), pre(999999, 999999, 999999, "abcdefgh.abcdefgh")
	if len(full.Text()) != api.MaxWord || !full.Check() || !full.Has(top) || full.Highest(top) != 0 {
		t.Error(full, len(full.Text()))
	}
	full.Alts[1][2].V.N[0] = 111
	if full.Check() || full.Text() != "" || full.Has(top) || full.Highest(top) != -1 {
		t.Error("a range whose text would be too long may be one")
	}
}

// badRanges: ranges made by hand that may not be.
func badRanges() []spec.Range {
	fine := []spec.Comp{anyComp}
	out := []spec.Range{
		none, {Alts: [][]spec.Comp{}}, rangeOf(nil), rangeOf([]spec.Comp{}), rangeOf(fine, nil), rangeOf(nil, fine), rangeOf(fine, fine, fine, fine, fine), rangeOf(fine, fine, fine, []spec.Comp{}),
		rangeOf([]spec.Comp{anyComp, anyComp, anyComp, anyComp, anyComp}), rangeOf(fine, []spec.Comp{anyComp, anyComp, anyComp, anyComp, anyComp}),
	}
	bad := []spec.Comp{comp(spec.Any, one), comp(spec.Any, release(0, 0, 1)), comp(spec.Any, pre(0, 0, 0, "a")), comp(spec.Any, release(-1, 0, 0))}
	for _, op := range []int{-1, 9, 10, math.MinInt, math.MaxInt} {
		bad = append(bad, comp(op, version.Version{}), comp(op, one))
	}
	for op := spec.Eq; op <= spec.Same; op++ {
		bad = append(bad, comp(op, release(-1, 0, 0)), comp(op, release(0, 1000000, 0)), comp(op, pre(1, 0, 0, "01")), comp(op, pre(1, 0, 0, "a.")))
	}
	for _, c := range bad {
		out = append(out, rangeOf([]spec.Comp{c}), rangeOf([]spec.Comp{anyComp, c}), rangeOf(fine, []spec.Comp{c}), rangeOf([]spec.Comp{c}, fine))
	}
	long := comp(spec.Ne, pre(999999, 999999, 999999, "abcdefgh.abcdefgh.abcdefgh.abcdefgh"))
	return append(out, rangeOf([]spec.Comp{long, long}), rangeOf([]spec.Comp{long}, []spec.Comp{long}), rangeOf(fine, []spec.Comp{long, long, long, long}, fine))
}

// P4.1: of ranges that may not be, there is no text, and they have nothing.
func TestCheckRefuses(t *testing.T) {
	l := []version.Version{{}, one, pre(0, 0, 0, "a"), pre(1, 0, 0, "a"), release(999999, 0, 0), release(-1, 0, 0)}
	for _, r := range badRanges() {
		if r.Check() || r.Text() != "" || r.Highest(l...) != -1 {
			t.Errorf("%v: %v, %q, %d", r, r.Check(), r.Text(), r.Highest(l...))
		}
		for _, v := range l {
			if r.Has(v) {
				t.Errorf("%v has %v", r, v)
			}
		}
	}
}

// P4.1: what may be no version is in no range.
func TestHasNoOddVersion(t *testing.T) {
	odd := []version.Version{release(-1, 0, 0), release(1000000, 0, 0), release(1, 1000000, 0), pre(1, 0, 0, "01"), pre(1, 0, 0, "a."), pre(1, 0, 0, "A"), release(999999, 0, 0).Next(0)}
	for _, s := range []string{"*", ">0.0.0", "!=5.0.0", "<999999.0.0", ">=0.0.0", "^1.0.0", "!=1.0.0-a", ">=1.0.0-a|*", "^999999.0.0"} {
		r := mustParse(t, s)
		for _, v := range odd {
			if r.Has(v) || r.Highest(v) != -1 {
				t.Errorf("%s has %v", s, v)
			}
		}
	}
}

// row: versions, each higher than all ahead of it.
const row = "0.0.0-a 0.0.0 0.0.1 0.0.2-a 0.0.2 0.0.3-a 0.0.3 0.1.0-a 0.1.0 0.1.9 0.2.0-a 0.2.0 0.2.1-a 0.2.1-b 0.2.1 0.2.9-a 0.2.9 0.3.0-a 0.3.0 0.9.9 " +
	"1.0.0-a 1.0.0-b 1.0.0-c 1.0.0 1.0.1 1.1.0-a 1.1.0 1.2.3-a 1.2.3-b 1.2.3 1.2.4-a 1.2.4 1.3.0-a 1.3.0 1.9.9 2.0.0-a 2.0.0 2.0.1 10.0.0 999999.0.0 999999.999999.999998 999999.999999.999999-a 999999.999999.999999"

// had: which versions of the row a range has.
func had(t *testing.T, r spec.Range) string {
	t.Helper()
	var out []string
	for _, s := range strings.Fields(row) {
		if r.Has(mustVersion(t, s)) {
			out = append(out, s)
		}
	}
	return strings.Join(out, " ")
}

// P4.1: what each sign has, of all of the row.
func TestHas(t *testing.T) {
	var releases []string
	for _, s := range strings.Fields(row) {
		if !strings.Contains(s, "-") {
			releases = append(releases, s)
		}
	}
	all := strings.Join(releases, " ")
	ahead := func(s string) string { return strings.Join(releases[:slices.Index(releases, s)], " ") }
	from := func(s string) string { return strings.Join(releases[slices.Index(releases, s):], " ") }
	for text, want := range map[string]string{
		"*":                 all,
		"=1.2.3":            "1.2.3",
		"=7.7.7":            "",
		"=1.2.3-a":          "1.2.3-a",
		"=1.2.3-c":          "",
		"!=1.2.3":           strings.Replace(all, "1.2.3 ", "", 1),
		"!=7.7.7":           all,
		"!=1.2.3-a":         strings.Replace(all, "1.2.3", "1.2.3-b 1.2.3", 1),
		"<1.0.0":            ahead("1.0.0"),
		"<1.0.0-b":          ahead("1.0.0") + " 1.0.0-a",
		"<0.0.0":            "",
		"<0.0.0-a":          "",
		"<0.0.0-b":          "0.0.0-a",
		"<=1.0.0":           ahead("1.0.1"),
		"<=1.0.0-b":         ahead("1.0.0") + " 1.0.0-a 1.0.0-b",
		"<=0.0.0":           "0.0.0",
		"<=0.0.0-a":         "0.0.0-a",
		">1.0.0":            from("1.0.1"),
		">1.0.0-b":          "1.0.0-c " + from("1.0.0"),
		">999999.0.0":       "999999.999999.999998 999999.999999.999999",
		">=1.0.0":           from("1.0.0"),
		">=1.0.0-b":         "1.0.0-b 1.0.0-c " + from("1.0.0"),
		">=0.0.0":           all,
		"~1.2.3":            "1.2.3 1.2.4",
		"~1.2.3-b":          "1.2.3-b 1.2.3 1.2.4",
		"~1.2.0":            "1.2.3 1.2.4",
		"~1.0.0":            "1.0.0 1.0.1",
		"~0.0.0":            "0.0.0 0.0.1 0.0.2 0.0.3",
		"~0.0.2":            "0.0.2 0.0.3",
		"~0.2.1":            "0.2.1 0.2.9",
		"~0.2.1-b":          "0.2.1-b 0.2.1 0.2.9",
		"~2.0.1":            "2.0.1",
		"~999999.999999.0":  "999999.999999.999998 999999.999999.999999",
		"^1.2.3":            "1.2.3 1.2.4 1.3.0 1.9.9",
		"^1.2.3-b":          "1.2.3-b 1.2.3 1.2.4 1.3.0 1.9.9",
		"^1.0.0":            "1.0.0 1.0.1 1.1.0 1.2.3 1.2.4 1.3.0 1.9.9",
		"^1.0.0-b":          "1.0.0-b 1.0.0-c 1.0.0 1.0.1 1.1.0 1.2.3 1.2.4 1.3.0 1.9.9",
		"^0.2.1":            "0.2.1 0.2.9",
		"^0.2.1-b":          "0.2.1-b 0.2.1 0.2.9",
		"^0.2.0":            "0.2.0 0.2.1 0.2.9",
		"^0.1.0":            "0.1.0 0.1.9",
		"^0.0.2":            "0.0.2",
		"^0.0.2-a":          "0.0.2-a 0.0.2",
		"^0.0.0":            "0.0.0",
		"^0.0.0-a":          "0.0.0-a 0.0.0",
		"^10.0.0":           "10.0.0",
		"^999999.0.0":       "999999.0.0 999999.999999.999998 999999.999999.999999",
		"^999998.0.0":       "",
		"^0.999999.0":       "",
		"^0.0.999999":       "",
		">=1.0.0-b,<2.0.0":  "1.0.0-b 1.0.0-c 1.0.0 1.0.1 1.1.0 1.2.3 1.2.4 1.3.0 1.9.9",
		">=1.0.0,<2.0.0-b":  "1.0.0 1.0.1 1.1.0 1.2.3 1.2.4 1.3.0 1.9.9 2.0.0-a",
		">2.0.0,<1.0.0":     "",
		"~1.2.3,!=1.2.3":    "1.2.4",
		"~1.2.3,>=1.3.0-a":  "1.3.0-a",
		"^1.9.9,<=2.0.0-a":  "1.9.9 2.0.0-a",
		"^0.2.9,>=0.3.0-a":  "0.3.0-a",
		"^0.0.2,>=0.0.3-a":  "0.0.3-a",
		"*,=1.0.0-b":        "1.0.0-b",
		"=1.0.0-b,*":        "1.0.0-b",
		"*,!=1.0.0-b":       strings.Replace(all, " 1.0.0", " 1.0.0-a 1.0.0-c 1.0.0", 1),
		"=1.0.0|=1.2.3":     "1.0.0 1.2.3",
		"=1.2.3|=1.0.0|*":   all,
		"<0.0.1|>10.0.0":    "0.0.0 999999.0.0 999999.999999.999998 999999.999999.999999",
		"=7.7.7|=1.0.0-c":   "1.0.0-c",
		"*|=1.0.0-c":        strings.Replace(all, " 1.0.0", " 1.0.0-c 1.0.0", 1),
		"*|>1.0.0,=1.0.0-c": all,
	} {
		if got := had(t, mustParse(t, text)); got != want {
			t.Errorf("%s has %s; want %s", text, got, want)
		}
	}
}

// P4.1: who opens an alternative to what is no release: a comparison of its own that names another such of the same numbers.
func TestHasWhatIsNoRelease(t *testing.T) {
	for _, c := range []struct {
		text, v string
		want    bool
	}{
		{"*", "1.0.0-a", false},
		{"*", "0.0.0-a", false},
		{"*,*", "0.0.0-a", false},
		{"!=1.0.0", "1.0.0-a", false},
		{"<=1.0.0", "1.0.0-a", false},
		{">=0.9.0", "1.0.0-a", false},
		{">=0.9.0-a", "1.0.0-a", false},
		{">=0.9.0-a", "0.9.0-b", true},
		{">=0.9.0-b", "0.9.0-a", false},
		{"<1.0.0,!=1.0.0", "1.0.0-a", false},
		{"<1.0.0,!=1.0.0-b", "1.0.0-a", true},
		{"!=1.0.0-b,<1.0.0", "1.0.0-a", true},
		{"!=1.0.0-b,!=1.0.0-c,*,<1.0.0", "1.0.0-a", true},
		{"*,<1.0.0,!=1.0.0-c,!=1.0.1-b", "1.0.0-a", true},
		{"*,<1.0.0,!=1.0.1-c,!=1.0.1-b", "1.0.0-a", false},
		{"!=1.0.0-a", "1.0.0-a", false},
		{"!=1.1.0-a", "1.0.0-a", false},
		{"!=1.0.1-a", "1.0.0-a", false},
		{"!=2.0.0-a", "1.0.0-a", false},
		{"<1.0.0|!=1.0.0-b", "1.0.0-a", true},
		{"<1.0.0|!=1.0.1-b", "1.0.0-a", false},
		{"<1.0.0|=1.0.0-b", "1.0.0-a", false}, // the second one opens itself alone
		{"=1.0.0-b|<1.0.0", "1.0.0-a", false},
		{">=1.0.0-b,<2.0.0", "1.0.0-c", true},
		{">=1.0.0-b,<2.0.0", "1.0.0-a", false},
		{">=1.0.0-b,<2.0.0", "1.0.1-c", false},
		{">=1.0.0-b,<2.0.0", "2.0.0-a", false},
		{"^0.2.1", "0.2.9-a", false},
		{"^0.2.1-a", "0.2.9-a", false},
		{"^0.2.1-a", "0.2.1-b", true},
		{"~1.2.3-b", "1.2.3-a", false},
		{"=1.0.0-a", "1.0.0-a", true},
		{"=1.0.0-a", "1.0.0", false},
		{"<=1.0.0-rc.10", "1.0.0-rc.9", true},
		{"<1.0.0-rc.2", "1.0.0-rc.10", false},
	} {
		if got := mustParse(t, c.text).Has(mustVersion(t, c.v)); got != c.want {
			t.Errorf("%s has %s: %v", c.text, c.v, got)
		}
	}
}

// Example 1 of the chapter, and the fourth one of the whole.
func TestExample(t *testing.T) {
	r := mustParse(t, "^0.2.1")
	if !r.Has(release(0, 2, 9)) || r.Has(release(0, 3, 0)) || r.Has(pre(0, 2, 9, "a")) {
		t.Error(r)
	}
	if !mustParse(t, ">=1.0.0-b,<2.0.0").Has(pre(1, 0, 0, "c")) {
		t.Error(">=1.0.0-b,<2.0.0 hasn't 1.0.0-c")
	}
}

// holds: does a comparison hold, by places in the row, and by numbers as one? In another way than the program's.
func holds(l []version.Version, c spec.Comp, at int) bool {
	place := slices.Index(l, c.V)
	v, worth := l[at], func(n [3]int) int { return n[0]*1e12 + n[1]*1e6 + n[2] }
	below := func(n ...int) bool { // below the release that has these numbers, and noughts behind
		top := worth([3]int(append(n, 0, 0)[:3]))
		return worth(v.N) < top || worth(v.N) == top && v.Pre != ""
	}
	n := c.V.N
	switch c.Op {
	case spec.Eq:
		return at == place
	case spec.Ne:
		return at != place
	case spec.Lt:
		return at < place
	case spec.Le:
		return at <= place
	case spec.Gt:
		return at > place
	case spec.Ge:
		return at >= place
	case spec.Near:
		return at >= place && below(n[0], n[1]+1)
	case spec.Same:
		switch {
		case n[0] > 0:
			return at >= place && below(n[0]+1)
		case n[1] > 0:
			return at >= place && below(0, n[1]+1)
		}
		return at >= place && below(0, 0, n[2]+1)
	}
	return true
}

// holdsAll: has an alternative the version at that place of the row?
func holdsAll(l []version.Version, alt []spec.Comp, at int) bool {
	open := l[at].Pre == ""
	for _, c := range alt {
		if !holds(l, c, at) {
			return false
		}
		open = open || c.Op != spec.Any && c.V.Pre != "" && c.V.N == l[at].N
	}
	return open
}

// maker makes ranges by a rule, of the row's versions.
type maker struct {
	l    []version.Version
	seed uint64
}

func newMaker(t *testing.T) *maker {
	m := &maker{seed: 3}
	for _, s := range strings.Fields(row) {
		m.l = append(m.l, mustVersion(t, s))
	}
	return m
}

func (m *maker) next(n int) int {
	m.seed = m.seed*6364136223846793005 + 1442695040888963407
	return int(m.seed>>33) % n
}

func (m *maker) alt() []spec.Comp {
	var alt []spec.Comp
	for range 1 + m.next(3) {
		c := anyComp
		if op := m.next(9); op < spec.Any {
			c = comp(op, m.l[m.next(len(m.l))])
		}
		alt = append(alt, c)
	}
	return alt
}

// make: a range that may be one. It tries so often alone, so that a program that has none doesn't keep the test from ending.
func (m *maker) make(most int) spec.Range {
	var r spec.Range
	for range 1000 {
		r = none
		for range 1 + m.next(most) {
			r.Alts = append(r.Alts, m.alt())
		}
		if r.Check() {
			break
		}
	}
	return r
}

// P4.1: each sign with each version of the row, for each version of the row.
func TestHasEachComparison(t *testing.T) {
	m := newMaker(t)
	for op := spec.Eq; op <= spec.Same; op++ {
		for _, v := range m.l {
			alt := []spec.Comp{comp(op, v)}
			for i, x := range m.l {
				if got := rangeOf(alt).Has(x); got != holdsAll(m.l, alt, i) {
					t.Errorf("%s has %s: %v", rangeOf(alt).Text(), x.Text(), got)
				}
			}
		}
	}
}

// P4.1, P4.2: ranges of any shape: what they have; they are parsed as they were.
func TestRangesOfAnyShape(t *testing.T) {
	m := newMaker(t)
	for range 3000 {
		r := m.make(4)
		if got, ok := spec.Parse(r.Text()); !ok || !reflect.DeepEqual(got, r) {
			t.Fatal(r.Text(), got, ok)
		}
		for i, v := range m.l {
			want := false
			for _, alt := range r.Alts {
				want = want || holdsAll(m.l, alt, i)
			}
			if r.Has(v) != want {
				t.Fatalf("%s has %s: %v", r.Text(), v.Text(), !want)
			}
		}
	}
}

// P4.3: what two ranges have together is what the range with both texts has.
func TestTogether(t *testing.T) {
	m := newMaker(t)
	joined := 0
	for range 4000 {
		a, b := m.make(2), m.make(2)
		text := a.Text() + "|" + b.Text()
		if len(text) > api.MaxWord {
			continue
		}
		joined++
		both, ok := spec.Parse(text)
		if !ok || len(both.Alts) != len(a.Alts)+len(b.Alts) {
			t.Fatal(text, both, ok)
		}
		for _, v := range m.l {
			if both.Has(v) != (a.Has(v) || b.Has(v)) {
				t.Fatalf("%s has %s: %v", text, v.Text(), both.Has(v))
			}
		}
	}
	if joined < 2000 {
		t.Error("of 4000 pairs are together no longer than may be", joined)
	}
}

// P4.1: the first of the highest that it has.
func TestHighest(t *testing.T) {
	for _, c := range []struct {
		text string
		l    string
		want int
	}{
		{"*", "", -1},
		{"*", "1.0.0", 0},
		{"*", "1.0.0-a", -1},
		{"*", "1.0.0 2.0.0", 1},
		{"*", "2.0.0 1.0.0", 0},
		{"*", "1.0.0 2.0.0 2.0.0 1.0.0", 1},
		{"*", "2.0.0 2.0.0", 0},
		{"*", "1.0.0-a 0.0.1 3.0.0-a 0.0.1", 1},
		{"<2.0.0", "2.0.0 1.0.0 1.9.9 3.0.0 1.9.9 0.0.0", 2},
		{"<2.0.0", "2.0.0 3.0.0", -1},
		{"=0.0.0", "1.0.0 0.0.0 0.0.0", 1},
		{">=1.0.0-a", "0.9.9 1.0.0-a 1.0.0-c 1.0.0-b", 2},
		{">=1.0.0-a", "1.0.0-rc.2 1.0.0-rc.10 1.0.0-rc.9", 1},
		{"=1.0.0|=3.0.0", "1.0.0 2.0.0 3.0.0 4.0.0", 2},
		{"=3.0.0|=1.0.0", "1.0.0 2.0.0 3.0.0 4.0.0", 2},
	} {
		var l []version.Version
		for _, s := range strings.Fields(c.l) {
			l = append(l, mustVersion(t, s))
		}
		if got := mustParse(t, c.text).Highest(l...); got != c.want {
			t.Errorf("%s: the highest of %s is %d, want %d", c.text, c.l, got, c.want)
		}
	}
	if got := mustParse(t, "*").Highest(release(1000000, 0, 0), one, release(-1, 0, 0)); got != 1 {
		t.Error("among some that may not be:", got)
	}
}

// P4.1: the highest is in the range, and nothing in it is higher, nor is the same and ahead.
func TestHighestIsThat(t *testing.T) {
	m := newMaker(t)
	for range 1000 {
		r := m.make(3)
		var l []version.Version
		for range m.next(12) {
			l = append(l, m.l[m.next(len(m.l))])
		}
		got := r.Highest(l...)
		if got >= len(l) || got >= 0 && !r.Has(l[got]) {
			t.Fatal(r.Text(), l, got)
		}
		for i, v := range l {
			if r.Has(v) && (got < 0 || version.Compare(v, l[got]) > 0 || v == l[got] && i < got) {
				t.Fatal(r.Text(), l, got, i)
			}
		}
	}
}

// Rules 4 and 5: what is handed in isn't changed, its spare room neither; the same is answered again.
func TestNothingIsChanged(t *testing.T) {
	make1 := func() spec.Range {
		spare := comp(77, release(7, 7, 7))
		a := []spec.Comp{comp(spec.Ge, one), comp(spec.Lt, two), spare}
		b := []spec.Comp{anyComp, spare}
		return rangeOf(a[:2], b[:1], []spec.Comp{spare})
	}
	whole := make1()
	r := rangeOf(whole.Alts[:2]...)
	l := []version.Version{release(0, 1, 0), release(1, 2, 0), release(0, 5, 0), release(9, 9, 9)}
	was := slices.Clone(l)
	for range 2 {
		if !r.Check() || r.Text() != ">=1.0.0,<2.0.0|*" || !r.Has(l[0]) || r.Highest(l[:3]...) != 1 {
			t.Error(r)
		}
	}
	if !reflect.DeepEqual(whole, make1()) || !slices.Equal(l, was) {
		t.Error(whole, l)
	}
	for i, alt := range whole.Alts[:2] {
		if !reflect.DeepEqual(alt[:cap(alt)], make1().Alts[i][:cap(alt)]) {
			t.Error("spare room", alt[:cap(alt)])
		}
	}
}

// Rule 4: what is answered is new memory, and no list in it is part of another one.
func TestParseAnswersNewMemory(t *testing.T) {
	const text = "=1.0.0,=2.0.0|=3.0.0|=4.0.0"
	a, b := mustParse(t, text), mustParse(t, text)
	for i, alt := range a.Alts {
		for j := range alt {
			a.Alts[i][j].V.N[0] += 5
		}
		a.Alts[i] = append(alt, anyComp)
	}
	if b.Text() != text || a.Text() != "=6.0.0,=7.0.0,*|=8.0.0,*|=9.0.0,*" {
		t.Error(a.Text(), b.Text())
	}
}
