package policy_test

import (
	"math"
	"strings"
	"testing"

	"chandler/api"
	"chandler/mark"
	"chandler/policy"
)

// fine is the answer where there is no fault.
var fine = api.Fault{}

// told: a marked text without its mark, and a fault where that stood: [ ahead of a word, ] in a line that lacks one.
func told(marked string, code api.Errno) (string, api.Fault) {
	at := strings.IndexAny(marked, "[]")
	if at < 0 {
		panic("no mark: " + marked)
	}
	f := api.Fault{Code: code, Line: 1 + strings.Count(marked[:at], "\n"), Col: at - strings.LastIndex(marked[:at], "\n")}
	if marked[at] == ']' {
		f.Col = 0
	}
	return marked[:at] + marked[at+1:], f
}

// refused: of a marked text that is told, and nothing else is answered (rule 2).
func refused(t *testing.T, marked string, code api.Errno) {
	t.Helper()
	text, want := told(marked, code)
	if got, f := policy.Parse(text); f != want || !nothing(got) {
		t.Errorf("%q: %v, %v; want %v", marked, got, f, want)
	}
}

// parsed: the policy of a text; it may be one.
func parsed(t *testing.T, text string) policy.Policy {
	t.Helper()
	p, f := policy.Parse(text)
	if f != fine {
		t.Fatalf("%q: %v", text, f)
	}
	if e := p.Check(); e != api.OK {
		t.Fatalf("%q: Check is %d", text, e)
	}
	return p
}

// P8.1, P8.2: a policy with something of each kind.
func TestRich(t *testing.T) {
	if got := parsed(t, richText); !same(got, rich()) {
		t.Errorf("%+v", got)
	}
	if text, e := rich().Text(); text != richText || e != api.OK {
		t.Errorf("%d\n%s", e, text)
	}
	// Blanks, remarks and lines without words are nothing.
	loose := "# whom we trust\n\n\t" + strings.ReplaceAll(strings.ReplaceAll(richText, " ", " \t "), "\n", " # source b\n \n") + "\n#"
	if got := parsed(t, loose); !same(got, rich()) {
		t.Errorf("%+v", got)
	}
	if got := parsed(t, strings.TrimSuffix(richText, "\n")); !same(got, rich()) {
		t.Errorf("%+v", got)
	}
}

// The example of the chapter.
func TestExample(t *testing.T) {
	p := parsed(t, "policy\nsource main 3ff0000000000000 open\nclaim @lib/* allow main\n")
	want := policy.Policy{Sources: []policy.Source{{Name: "main", Score: 1, Open: true}}, Claims: []policy.Claim{{Glob: "@lib/*", Kind: policy.Allow, Sources: []string{"main"}}}}
	if !same(p, want) {
		t.Error(p)
	}
}

// P8.1, P8.2: as much as may be.
func TestFull(t *testing.T) {
	text, e := full().Text()
	if e != api.OK || !same(parsed(t, text), full()) {
		t.Errorf("%q, %d", text, e)
	}
	long := strings.Repeat("a", 20)
	scoped := "@" + long + "/" + long
	p := policy.Policy{
		Sources: []policy.Source{{Name: long, Score: math.Inf(1)}},
		Claims:  []policy.Claim{{Glob: scoped + "*", Kind: policy.Deny, Sources: []string{long}}, {Glob: scoped}},
		Pins:    []policy.Pin{{Name: scoped, Version: v("999999.999999.999999-abcdefgh.abcdefgh.abcdefgh.abcdefgh")}},
		Hashes:  []policy.Hash{{Name: scoped, Digests: []mark.Digest{1<<64 - 1, 1<<64 - 2, 1<<64 - 3, 1<<64 - 4}}},
		Tenants: []policy.Tenant{{Name: long, Labels: mark.All}},
	}
	text, e = p.Text()
	if e != api.OK || !same(parsed(t, text), p) {
		t.Errorf("%q, %d", text, e)
	}
}

// P8.1: lines of unlike kinds stand in any order; each list is as its own lines stand.
func TestAnyOrder(t *testing.T) {
	const text = "policy\ntenant b -\nclaim * deny\nhash z 0000000000000002\nsource b bff0000000000000 closed\npin b 2.0.0\nclaim a* first b\nsource a 0000000000000000 open\ntenant a a\npin a 1.0.0\nclaim a allow a b\nhash y 0000000000000001\n"
	want := policy.Policy{
		Sources: []policy.Source{{Name: "b", Score: -1}, {Name: "a", Open: true}},
		Claims:  []policy.Claim{{Glob: "*", Kind: policy.Deny}, {Glob: "a*", Kind: policy.First, Sources: []string{"b"}}, {Glob: "a", Sources: []string{"a", "b"}}},
		Pins:    []policy.Pin{{Name: "b", Version: v("2.0.0")}, {Name: "a", Version: v("1.0.0")}},
		Hashes:  []policy.Hash{{Name: "z", Digests: []mark.Digest{2}}, {Name: "y", Digests: []mark.Digest{1}}},
		Tenants: []policy.Tenant{{Name: "b"}, {Name: "a", Labels: 1}},
	}
	p := parsed(t, text)
	if !same(p, want) {
		t.Errorf("%+v", p)
	}
	const written = "policy\nsource b bff0000000000000 closed\nsource a 0000000000000000 open\nclaim * deny\nclaim a* first b\nclaim a allow a b\npin b 2.0.0\npin a 1.0.0\nhash z 0000000000000002\nhash y 0000000000000001\ntenant b -\ntenant a a\n"
	if got, e := p.Text(); got != written || e != api.OK {
		t.Errorf("%q, %d", got, e)
	}
}

// P8.1: no line at all; the first line alone.
func TestNoLine(t *testing.T) {
	for _, text := range []string{"", "\n", " \t\n\n", "# policy\n", "#", strings.Repeat("\n", api.MaxLines)} {
		if p, f := policy.Parse(text); f != (api.Fault{Code: api.Syntax}) || !nothing(p) {
			t.Errorf("%q: %v, %v", text, p, f)
		}
	}
	for _, text := range []string{"policy\n", "policy", "\n  policy\t# and nothing more"} {
		if p := parsed(t, text); !nothing(p) {
			t.Errorf("%q: %v", text, p)
		}
	}
}

const begin = "\npolicy\n source m 3ff0000000000000 open\nsource o\t0000000000000000 closed\n"

// P8.1: wrong words, words that are missing or left, and where that is told.
func TestParseSyntax(t *testing.T) {
	for _, marked := range []string{
		"  [source m 3ff0000000000000 open\n", "[Policy", "[policies", "[claim * allow", "[pin a 1.0.0", "[hash a 0000000000000000", "[tenant a -", "[x\npolicy", "[manifest", "[index main",
		"policy [main", "policy [policy", "policy [x\npolicy", "policy\n [policy", "policy\npin a 1.0.0\n[policy\n", begin + "[policy x",
		begin + "[sources", begin + "[Source", begin + "[claims", begin + "[Pin a 1.0.0", begin + "[pins", begin + "[HASH", begin + "[digest", begin + "[tenants", begin + "[root a *", begin + "[entry", begin + "[m", begin + "[*", begin + "[-",

		begin + "source]", begin + "source [A", begin + "source [@lib/a 3ff0000000000000 open", begin + "source [a* 3ff0000000000000 open", begin + "source [3ff0000000000000 open", begin + "source [abcdefghijklmnopqrstu",
		begin + "source a]", begin + "source a [1 open", begin + "source a [3FF0000000000000 open", begin + "source a [3ff000000000000 open", begin + "source a [3ff00000000000000 open", begin + "source a [open", begin + "source a [-ff0000000000000",
		begin + "source a 3ff0000000000000]", begin + "source a 3ff0000000000000 [Open", begin + "source a 3ff0000000000000 [close", begin + "source a 3ff0000000000000 [opened", begin + "source a 3ff0000000000000 [yes x", begin + "source a 3ff0000000000000 [-",
		begin + "source a 3ff0000000000000 open [open", begin + "source a 3ff0000000000000 closed [x y", begin + "source a 3ff0000000000000 closed [open",

		begin + "claim]", begin + "claim [A", begin + "claim [** allow", begin + "claim [@lib* allow", begin + "claim [*a", begin + "claim [@*/a allow q", begin + "claim [a- allow",
		begin + "claim *]", begin + "claim * [m", begin + "claim * [Allow m", begin + "claim * [allowed q", begin + "claim * [0", begin + "claim * [permit", begin + "claim * [allow,deny",

		begin + "pin]", begin + "pin [A", begin + "pin [* 1.0.0", begin + "pin [@lib/* 1.0.0", begin + "pin [1.0.0 a",
		begin + "pin a]", begin + "pin a [1.0", begin + "pin a [* x", begin + "pin a [=1.0.0", begin + "pin a [^1.0.0", begin + "pin a [a", begin + "pin a 1.0.0 [1.0.0", begin + "pin a 1.0.0 [x y",

		begin + "hash]", begin + "hash [A", begin + "hash [* 0000000000000000", begin + "hash [a* 00", begin + "hash [0000000000000000 a",
		begin + "hash a]", begin + "hash a [aa", begin + "hash a [00000000000000AA", begin + "hash a [000000000000000", begin + "hash a [-",
		begin + "hash a 0000000000000000 [aa", begin + "hash a 0000000000000000 0000000000000001 [00000000000000000 0000000000000000", begin + "hash a 0000000000000000 [x x",
		begin + "hash a 0000000000000000 0000000000000001 0000000000000002 0000000000000003 [4",

		begin + "tenant]", begin + "tenant [A", begin + "tenant [@a/b -", begin + "tenant [* -", begin + "tenant [- a", begin + "tenant [a* -",
		begin + "tenant a]", begin + "tenant a [A", begin + "tenant a [ba", begin + "tenant a [--", begin + "tenant a [a,b", begin + "tenant a - [-", begin + "tenant a ab [c d",

		// The first of several.
		begin + "[x y\nx", begin + "source [A b c d e", begin + "claim [A b c", begin + "pin [B 1\npolicy", begin + "hash a [b c", begin + "tenant a b [c\nsource m", "[x\nsource m 3ff0000000000000 open\nsource m 3ff0000000000000 open",
	} {
		refused(t, marked, api.Syntax)
	}
}

// P8.1: what is there already is told at its name, or pattern, ahead of what is wrong behind it.
func TestParseTwice(t *testing.T) {
	const more = begin + "claim a* allow m\nclaim @lib/a deny\npin a 1.0.0\npin @lib/a 1.0.0\nhash a 0000000000000000\nhash b 0000000000000000\ntenant a -\ntenant m ac\n"
	for _, behind := range []string{
		"source [m 3ff0000000000000 open", "source [o", "\tsource  [m x y z\n", "source [m 3ff0000000000000 open\nsource o", "source n 0000000000000000 open\nsource [n 0000000000000000 open",
		"claim [a* allow m", "claim [a*", "claim [a* x", "claim [@lib/a first q", "claim a first m\nclaim [a allow",
		"pin [a 1.0.0", "pin [a 2.0.0", "pin [@lib/a", "pin [a x y", "pin m 1.0.0\npin [m 1.0.0",
		"hash [a 0000000000000001", "hash [b", "hash [b x", "hash c 0000000000000001\n\n hash [c 0000000000000002",
		"tenant [a -", "tenant [m abc", "tenant [m", "tenant [m A -", "tenant o o\ntenant [o o",

		"claim * allow m [m", "claim * allow m o [m", "claim * allow o m [o q", "claim * deny o [o", "claim * first m o [o m",
		"hash c 0000000000000000 [0000000000000000", "hash c 0000000000000000 0000000000000001 [0000000000000000 x", "hash c 0000000000000001 00000000000000ff [00000000000000ff",
		// What is there ahead of what is too much.
		"hash c 0000000000000001 0000000000000002 0000000000000003 0000000000000004 [0000000000000004",
		"hash c 0000000000000001 0000000000000002 0000000000000003 0000000000000004 [0000000000000001 x",
	} {
		refused(t, more+behind, api.Twice)
	}
	for _, behind := range []string{
		"source a 3ff0000000000000 open", "source lib 3ff0000000000000 open\nclaim lib allow m", "claim a allow m", "claim @lib/* allow", "claim * allow\nclaim @lib/a* deny m o", "claim m deny m", "pin m 1.0.0", "pin @libs/a 1.0.0",
		"hash @lib/a 0000000000000000", "tenant o -\ntenant b -", "claim b* allow m\nclaim c* allow m\npin b 1.0.0\npin c 1.0.0",
	} {
		parsed(t, more+behind)
	}
}

// P8.1: a claim's sources stand in lines ahead.
func TestParseMissing(t *testing.T) {
	for _, marked := range []string{
		begin + "claim * allow [q", begin + "claim * deny m [q", begin + "claim * first m o [q m", begin + "claim * allow m [mm", begin + "claim * allow [mo",
		begin + "claim * allow [q\nsource q 3ff0000000000000 open", "policy\nclaim * allow [m\n source m 3ff0000000000000 open\n", "policy\nclaim * allow [m",
		begin + "claim * allow [a* m", begin + "claim * allow [M", begin + "claim * allow [@lib/a", begin + "claim * allow [allow m", begin + "claim * allow [*", begin + "claim * allow m [q q", begin + "tenant q -\npin q 1.0.0\nclaim q allow [q",
		begin + "claim * allow m o [q source n 3ff0000000000000 open",
	} {
		refused(t, marked, api.Missing)
	}
	p := parsed(t, begin+"claim * deny m\nsource q 3ff0000000000000 open\nclaim a first q m o\nclaim b allow\n")
	if len(p.Claims) != 3 || len(p.Claims[0].Sources) != 1 || strings.Join(p.Claims[1].Sources, " ") != "q m o" || len(p.Claims[2].Sources) != 0 {
		t.Error(p)
	}
}

// repeat: so many texts with their numbers instead of a %.
func repeat(n int, s string) string {
	text := ""
	for i := range n {
		text += strings.ReplaceAll(s, "%", num("", i))
	}
	return text
}

// P8.1: so many of each kind, and not one more; which is told at the first word, ahead of all other words.
func TestParseBounds(t *testing.T) {
	for _, c := range []struct {
		most int
		line string
	}{
		{api.MaxSources, "source s% 3ff0000000000000 open\n"},
		{api.MaxClaims, "claim c%* allow\n"},
		{api.MaxPins, "pin p% 1.0.0\n"},
		{api.MaxHashes, "hash h% 0000000000000000\n"},
		{api.MaxTenants, "tenant t% -\n"},
	} {
		full := "policy\n" + repeat(c.most, c.line)
		if text, e := parsed(t, full).Text(); text != full || e != api.OK {
			t.Errorf("%q is written as %q, %d", full, text, e)
		}
		word, _, _ := strings.Cut(c.line, " ")
		for _, more := range []string{strings.ReplaceAll(c.line, "%", "99"), strings.ReplaceAll(c.line, "%", "0"), word, word + " A A A", word + "\nx"} {
			refused(t, full+"\n \t["+more, api.Bound)
		}
		// Others may follow.
		for _, other := range []string{"source z 3ff0000000000000 open\n", "claim z deny\n", "pin z 1.0.0\n", "hash z 0000000000000000\n", "tenant z -\n"} {
			if !strings.HasPrefix(other, word) {
				parsed(t, full+other)
			}
		}
	}
	const four = "hash a 0000000000000001 0000000000000002 0000000000000003 0000000000000004"
	if p := parsed(t, "policy\n"+four); len(p.Hashes[0].Digests) != api.MaxDigests {
		t.Error(p)
	}
	for _, more := range []string{"0000000000000005", "0000000000000000 x", "0000000000000005 0000000000000005\nx", "00000000000000ff 0000000000000001"} {
		refused(t, "policy\n"+four+"  ["+more, api.Bound)
	}
	all, _ := full().Text()
	for _, more := range []string{"source z", "claim z", "pin z", "hash z", "tenant z"} {
		refused(t, all+"["+more, api.Bound)
	}
}

// P8.1: what layer 1 refuses is told ahead of all that lines must be.
func TestParseRead(t *testing.T) {
	long := strings.Repeat("a", api.MaxWord+1)
	for text, want := range map[string]api.Fault{
		"x\n\x00":                                          {Code: api.Syntax, Line: 2, Col: 1},
		"policy\npin a\xff b":                              {Code: api.Syntax, Line: 2, Col: 6},
		"policy A\npolicy\r\n":                             {Code: api.Syntax, Line: 2, Col: 7},
		"x\npolicy " + long:                                {Code: api.Bound, Line: 2, Col: 8},
		strings.Repeat("x ", 21):                           {Code: api.Bound, Line: 1, Col: 41},
		begin + "x\n" + long + "\n":                        {Code: api.Bound, Line: 6, Col: 1},
		"x" + strings.Repeat("\n", api.MaxLines) + "x":     {Code: api.Bound, Line: api.MaxLines + 1},
		"policy\n" + strings.Repeat("#", api.MaxText):      {Code: api.Bound},
		"\x00\n" + strings.Repeat("\n", api.MaxText):       {Code: api.Bound},
		"policy\nclaim * allow" + strings.Repeat(" q", 18): {Code: api.Bound, Line: 2, Col: 49},
	} {
		if p, f := policy.Parse(text); f != want || !nothing(p) {
			t.Errorf("%.60q: %v, %v; want %v", text, p, f, want)
		}
	}
	if got := parsed(t, richText+strings.Repeat("#", api.MaxText-len(richText))); !same(got, rich()) {
		t.Error(got)
	}
	if got := parsed(t, strings.Repeat("\n", api.MaxLines-strings.Count(richText, "\n"))+richText); !same(got, rich()) {
		t.Error(got)
	}
}

// P8.1: a source's number, of each kind, and its bits.
func TestScores(t *testing.T) {
	for bits, want := range map[string]float64{"0000000000000000": 0, "8000000000000000": math.Copysign(0, -1), "7ff0000000000000": math.Inf(1), "fff0000000000000": math.Inf(-1), "0000000000000001": 5e-324, "bff8000000000000": -1.5} {
		p := parsed(t, "policy\nsource a "+bits+" closed")
		if got := p.Sources[0]; math.Float64bits(got.Score) != math.Float64bits(want) || got.Open {
			t.Errorf("%s: %v", bits, got)
		}
		if text, _ := p.Text(); text != "policy\nsource a "+bits+" closed\n" {
			t.Errorf("%q", text)
		}
	}
	// All that is no number has one text.
	for _, bits := range []string{"7ff8000000000001", "7ff8000000000000", "fff8000000000000", "7ff0000000000001", "ffffffffffffffff"} {
		p := parsed(t, "policy\nsource a "+bits+" open")
		if text, e := p.Text(); !math.IsNaN(p.Sources[0].Score) || text != "policy\nsource a 7ff8000000000001 open\n" || e != api.OK {
			t.Errorf("%s: %q, %d", bits, text, e)
		}
	}
}

// Rule 4: lists of an answer share nothing with one another, nor with a later answer.
func TestParseNewMemory(t *testing.T) {
	p := parsed(t, richText)
	_ = append(p.Sources, policy.Source{Name: "z"})
	_ = append(p.Claims, policy.Claim{Glob: "z"})
	_ = append(p.Pins, policy.Pin{Name: "z"})
	_ = append(p.Hashes, policy.Hash{Name: "z"})
	_ = append(p.Tenants, policy.Tenant{Name: "z"})
	for i := range p.Claims {
		_ = append(p.Claims[i].Sources, "z")
	}
	for i := range p.Hashes {
		_ = append(p.Hashes[i].Digests, 99)
	}
	if !same(p, rich()) {
		t.Errorf("one list is changed through another one: %+v", p)
	}
	p.Claims[1].Sources[0], p.Hashes[0].Digests[0], p.Sources[0].Name = "changed", 99, "changed"
	if got := parsed(t, richText); !same(got, rich()) {
		t.Errorf("%+v", got)
	}
}
