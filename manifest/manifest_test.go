package manifest_test

import (
	"reflect"
	"slices"
	"strconv"
	"strings"
	"testing"

	"chandler/api"
	"chandler/index"
	"chandler/manifest"
	"chandler/spec"
	"chandler/version"
)

// fine is the answer where there is no fault.
var fine = api.Fault{}

// num is a text with a number behind.
func num(s string, n int) string { return s + strconv.Itoa(n) }

// need is a need, by its words.
func need(s, r string, feats ...string) index.Need {
	rng, ok := spec.Parse(r)
	if !ok {
		panic("no range: " + r)
	}
	return index.Need{Name: s, Range: rng, Feats: feats}
}

// of is a manifest with these roots.
func of(l ...index.Need) manifest.Manifest { return manifest.Manifest{Roots: l} }

// bare has nil where a manifest has an empty list: both are one. It is a deep copy, too.
func bare(m manifest.Manifest) manifest.Manifest {
	var out manifest.Manifest
	for _, n := range m.Roots {
		var alts [][]spec.Comp
		for _, alt := range n.Range.Alts {
			alts = append(alts, append([]spec.Comp(nil), alt...))
		}
		out.Roots = append(out.Roots, index.Need{Name: n.Name, Range: spec.Range{Alts: alts}, Feats: append([]string(nil), n.Feats...)})
	}
	return out
}

// same: are two manifests alike?
func same(a, b manifest.Manifest) bool { return reflect.DeepEqual(bare(a), bare(b)) }

// rich: a manifest with roots of all sorts.
func rich() manifest.Manifest {
	return of(
		need("b", "^1.0.0", "tls"),
		need("@lib/core-x", "<2.0.0|>=3.0.0-a,<4.0.0"),
		need("a", "*", "d", "c", "b", "a"),
		need("b", "!=1.2.3"),
		need("manifest", "=1.2.0-rc.2", "root", "manifest"),
		need("b", "^1.0.0", "tls"),
	)
}

// richText: its text.
const richText = `manifest
root b ^1.0.0 tls
root @lib/core-x <2.0.0|>=3.0.0-a,<4.0.0
root a * d c b a
root b !=1.2.3
root manifest =1.2.0-rc.2 root manifest
root b ^1.0.0 tls
`

// told: a marked text without its mark, and a fault where that stood: [ ahead of a word, ] in a line that lacks one.
func told(marked string, code api.Errno) (string, api.Fault) {
	at := strings.IndexAny(marked, "[]")
	if at < 0 {
		panic("no mark: " + marked)
	}
	f := api.Fault{Code: code, Line: 1 + strings.Count(marked[:at], "\n"), Col: at - strings.LastIndex(marked[:at], "\n")}
	if marked[at] == ']' {
		f.Col = 0
	}
	return marked[:at] + marked[at+1:], f
}

// refused: of a marked text that is told, and nothing else is answered (rule 2).
func refused(t *testing.T, marked string, code api.Errno) {
	t.Helper()
	text, want := told(marked, code)
	if got, f := manifest.Parse(text); f != want || got.Roots != nil {
		t.Errorf("%q: %v, %v; want %v", marked, got, f, want)
	}
}

// parsed: the manifest of a text; it may be one.
func parsed(t *testing.T, text string) manifest.Manifest {
	t.Helper()
	m, f := manifest.Parse(text)
	if f != fine {
		t.Fatalf("%q: %v", text, f)
	}
	if e := m.Check(); e != api.OK {
		t.Fatalf("%q: Check is %d", text, e)
	}
	return m
}

// P9.1, P9.2: roots of all sorts.
func TestRich(t *testing.T) {
	if got := parsed(t, richText); !same(got, rich()) {
		t.Errorf("%+v", got)
	}
	if text, e := rich().Text(); text != richText || e != api.OK {
		t.Errorf("%d\n%s", e, text)
	}
	// Blanks, remarks and lines without words are nothing.
	loose := "# what we want\n\n\t" + strings.ReplaceAll(strings.ReplaceAll(richText, " ", " \t "), "\n", " # root b *\n \n") + "\n#"
	if got := parsed(t, loose); !same(got, rich()) {
		t.Errorf("%+v", got)
	}
	if got := parsed(t, strings.TrimSuffix(richText, "\n")); !same(got, rich()) {
		t.Errorf("%+v", got)
	}
}

// The example of the chapter.
func TestExample(t *testing.T) {
	m := parsed(t, "manifest\nroot app ^1.0.0 tls\n")
	if !same(m, of(need("app", "^1.0.0", "tls"))) {
		t.Fatal(m)
	}
	for s, want := range map[string]bool{"1.0.0": true, "1.9.9": true, "0.9.9": false, "2.0.0": false} {
		at, _ := version.Parse(s)
		if got := m.Roots[0].Range.Has(at); got != want {
			t.Error(s, got)
		}
	}
}

// P9.1: no line at all; no root.
func TestNoLine(t *testing.T) {
	for _, text := range []string{"", "\n", " \t\n\n", "# manifest\n", "#", strings.Repeat("\n", api.MaxLines)} {
		if m, f := manifest.Parse(text); f != (api.Fault{Code: api.Syntax}) || m.Roots != nil {
			t.Errorf("%q: %v, %v", text, m, f)
		}
	}
	for _, text := range []string{"manifest\n", "manifest", "\n  manifest\t# and nothing more"} {
		if m := parsed(t, text); len(m.Roots) != 0 || len(m.Names()) != 0 {
			t.Errorf("%q: %v", text, m)
		}
	}
	for _, m := range []manifest.Manifest{{}, {Roots: []index.Need{}}} {
		if text, e := m.Text(); text != "manifest\n" || e != api.OK || m.Check() != api.OK || len(m.Names()) != 0 {
			t.Errorf("%q, %d", text, e)
		}
	}
}

const begin = "\nmanifest\n root a *\n"

// P9.1: wrong words, words that are missing or left, and where that is told.
func TestParseSyntax(t *testing.T) {
	for _, marked := range []string{
		"  [root a *\n", "[Manifest", "[manifests", "[index main", "[policy", "[x\nmanifest", "[need a *",
		"manifest [main", "manifest [manifest", "manifest [root a *", "manifest\n [manifest", begin + "[manifest\n", begin + "[manifest x",
		begin + "[need a *", begin + "[ban a *", begin + "[roots a *", begin + "[Root a *", begin + "[entry a 1.0.0", begin + "[a *", begin + "[-", begin + "[feature f",
		begin + "root]", begin + "root [A *", begin + "root [* a", begin + "root [@lib/* *", begin + "root [@lib *", begin + "root [a- *", begin + "root [^1.0.0",
		begin + "root a]", begin + "root a [1.0.0", begin + "root a [b", begin + "root a [=1.0.0, f", begin + "root a [*| F", begin + "root a [^1.0", begin + "root a [tls",
		begin + "root a * [F", begin + "root a * [@lib/f", begin + "root a * f [*", begin + "root a * f g h i [-", begin + "root a * f [F f", begin + "root a * [yanked-",
		// The first of several.
		begin + "root [A 1 F F\nroot", begin + "[x\nx", begin + "root a [1\nmanifest", "[root\nmanifest\nmanifest",
	} {
		refused(t, marked, api.Syntax)
	}
}

// P9.1: a feature that is there already, ahead of too many of them; a root may be there twice.
func TestParseTwice(t *testing.T) {
	for _, marked := range []string{"root a * f [f", "root a * f g [f F", "root a * f g h i [f", "root a * f g h i [i j", "root a * f g h [g i j"} {
		refused(t, begin+marked, api.Twice)
	}
	for _, more := range []string{"root a *", "root a * f\nroot a * f", "root a * a", "root root * root manifest need", "root @a/a *\nroot @b/a *"} {
		parsed(t, begin+more)
	}
}

// P9.1: so many roots, with so many features, and not one more.
func TestParseBounds(t *testing.T) {
	full := "manifest\n"
	for i := range api.MaxNeeds {
		full += num("root a", i) + " * f g h i\n"
	}
	m := parsed(t, full)
	if text, e := m.Text(); len(m.Roots) != api.MaxNeeds || text != full || e != api.OK {
		t.Errorf("%d roots, %q, %d", len(m.Roots), text, e)
	}
	for _, more := range []string{"root b *", "root a0 * f g h i\n", "root", "root A A A", "root b * f g h i j", "root\nx"} {
		refused(t, full+"\n \t["+more, api.Bound)
	}
	// What may stand nowhere is not beyond anything.
	refused(t, full+"[manifest", api.Syntax)
	refused(t, full+"[roots", api.Syntax)
	for _, marked := range []string{"root b * f g h i [j", "root b * f g h i [j F", "root b * f g h i\t[j j k l m n", "root b * f g h i [b"} {
		refused(t, begin+marked, api.Bound)
	}
}

// P9.1: what layer 1 refuses is told ahead of all that lines must be.
func TestParseRead(t *testing.T) {
	long := strings.Repeat("a", api.MaxWord+1)
	for text, want := range map[string]api.Fault{
		"x\n\x00":                                       {Code: api.Syntax, Line: 2, Col: 1},
		"manifest\nroot a\xff b":                        {Code: api.Syntax, Line: 2, Col: 7},
		"manifest A\nmanifest\r\n":                      {Code: api.Syntax, Line: 2, Col: 9},
		"x\nmanifest " + long:                           {Code: api.Bound, Line: 2, Col: 10},
		strings.Repeat("x ", 21):                        {Code: api.Bound, Line: 1, Col: 41},
		"x" + strings.Repeat("\n", api.MaxLines) + "x":  {Code: api.Bound, Line: api.MaxLines + 1},
		"manifest\n" + strings.Repeat("#", api.MaxText): {Code: api.Bound},
		"\x00\n" + strings.Repeat("\n", api.MaxText):    {Code: api.Bound},
	} {
		if m, f := manifest.Parse(text); f != want || m.Roots != nil {
			t.Errorf("%.60q: %v, %v; want %v", text, m, f, want)
		}
	}
	if got := parsed(t, richText+strings.Repeat("#", api.MaxText-len(richText))); !same(got, rich()) {
		t.Error(got)
	}
	if got := parsed(t, strings.Repeat("\n", api.MaxLines-strings.Count(richText, "\n"))+richText); !same(got, rich()) {
		t.Error(got)
	}
}

// P9.1: what may be a manifest; root by root, as layer 7 says of each.
func TestCheck(t *testing.T) {
	a, b := need("a", "*"), need("b", "^1.0.0", "f", "g", "h", "i")
	for what, c := range map[string]struct {
		m    manifest.Manifest
		want api.Errno
	}{
		"one":                           {of(a), api.OK},
		"as many as may be":             {of(a, b, a, b, a, b, a, b), api.OK},
		"one too many":                  {of(a, b, a, b, a, b, a, b, a), api.Bound},
		"too many, the first bad":       {of(index.Need{}, b, a, b, a, b, a, b, a), api.Bound},
		"nothing":                       {of(index.Need{}), api.Syntax},
		"no name":                       {of(a, need("", "*")), api.Syntax},
		"no name that may be":           {of(a, need("A", "*")), api.Syntax},
		"a pattern":                     {of(need("@lib/*", "*")), api.Syntax},
		"no range":                      {of(a, b, index.Need{Name: "a"}), api.Syntax},
		"no feature that may be":        {of(need("a", "*", "f", "@lib/g")), api.Syntax},
		"a feature twice":               {of(a, need("a", "*", "f", "g", "f")), api.Twice},
		"too many features":             {of(a, b, need("a", "*", "f", "g", "h", "i", "j")), api.Bound},
		"too many features, one twice":  {of(need("a", "*", "f", "f", "h", "i", "j")), api.Bound},
		"a feature twice, then no name": {of(need("a", "*", "f", "f"), need("A", "*")), api.Twice},
		"no name, then a feature twice": {of(need("A", "*"), need("a", "*", "f", "f")), api.Syntax},
		"too many features, then none":  {of(need("a", "*", "f", "g", "h", "i", "j"), index.Need{}), api.Bound},
		"the last of all":               {of(a, b, a, b, a, b, a, need("a", "*", "f", "f")), api.Twice},
		"roots alike":                   {of(a, a, a), api.OK},
	} {
		if got := c.m.Check(); got != c.want {
			t.Errorf("%s: %d, want %d", what, got, c.want)
		}
		text, e := c.m.Text()
		if e != c.want || (text == "") != (c.want != api.OK) {
			t.Errorf("%s: its text is %q, %d; want %d", what, text, e, c.want)
		}
		if e == api.OK && !same(parsed(t, text), c.m) {
			t.Errorf("%s isn't parsed as it was", what)
		}
	}
}

// P9.2: words that are as long as may be, and lines of as many.
func TestLongest(t *testing.T) {
	long := strings.Repeat("a", 20)
	wide := "=999999.999999.999999-abcdefgh.abcdefgh|!=999999.999999.999999-abcdefgh.abcdefgh"
	if len(wide) != api.MaxWord {
		t.Fatal(len(wide))
	}
	m := of(slices.Repeat([]index.Need{need("@"+long+"/"+long, wide, long, long[1:], long[2:], long[3:])}, api.MaxNeeds)...)
	text, e := m.Text()
	if e != api.OK || !same(parsed(t, text), m) {
		t.Errorf("%q, %d", text, e)
	}
}

// P9.1: the roots' names, each once, as they come first; of what may be no manifest, too.
func TestNames(t *testing.T) {
	for _, c := range []struct {
		m    manifest.Manifest
		want string
	}{
		{rich(), "b @lib/core-x a manifest"},
		{of(need("b", "*"), need("a", "*")), "b a"},
		{of(need("b", "*"), need("b", "=1.0.0"), need("b", "*", "f")), "b"},
		{of(need("c", "*"), need("a", "*"), need("c", "*"), need("b", "*"), need("a", "*"), need("c", "*")), "c a b"},
		{of(need("B", "*"), need("b", "*"), index.Need{Name: "*"}, need("B", "*")), "B b *"},
		{of(slices.Repeat([]index.Need{need("x", "*"), need("y", "*")}, 20)...), "x y"},
	} {
		if got := strings.Join(c.m.Names(), " "); got != c.want {
			t.Errorf("%v: %q, want %q", c.m, got, c.want)
		}
	}
	if got := of(index.Need{}, index.Need{}).Names(); len(got) != 1 || got[0] != "" {
		t.Errorf("%q", got)
	}
}

// Rule 4: what is handed in isn't changed, the spare room neither; answers are new memory.
func TestNewMemory(t *testing.T) {
	room := append(rich().Roots, need("spare", "*"))
	room[0].Feats = append(room[0].Feats, "spare")
	m := of(slices.Clone(room)[:6]...)
	m.Roots[0].Feats = room[0].Feats[:1]
	names := m.Names()
	names[0] = "changed"
	if text, e := m.Text(); text != richText || e != api.OK || m.Check() != api.OK || m.Names()[0] != "b" {
		t.Errorf("%q, %d", text, e)
	}
	if room[0].Feats[1] != "spare" || !same(m, rich()) {
		t.Error(room, m)
	}
	x := parsed(t, richText)
	_ = append(x.Roots, need("z", "*"))
	for i := range x.Roots {
		_ = append(x.Roots[i].Feats, "z")
	}
	if !same(x, rich()) {
		t.Errorf("one list is changed through another one: %+v", x)
	}
	x.Roots[0].Feats[0], x.Roots[1].Name = "changed", "changed"
	if got := parsed(t, richText); !same(got, rich()) {
		t.Errorf("%+v", got)
	}
}
