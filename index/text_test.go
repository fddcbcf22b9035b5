package index_test

import (
	"slices"
	"strings"
	"testing"

	"chandler/api"
	"chandler/index"
	"chandler/lines"
	"chandler/mark"
)

// fine is the answer where there is no fault.
var fine = api.Fault{}

// told: a marked text without its mark, and a fault where that stood: [ ahead of a word, ] in a line that lacks one.
func told(marked string, code api.Errno) (string, api.Fault) {
	at := strings.IndexAny(marked, "[]")
	if at < 0 {
		panic("no mark: " + marked)
	}
	f := api.Fault{Code: code, Line: 1 + strings.Count(marked[:at], "\n"), Col: at - strings.LastIndex(marked[:at], "\n")}
	if marked[at] == ']' {
		f.Col = 0
	}
	return marked[:at] + marked[at+1:], f
}

// refused: of a marked text that is told, and nothing else is answered (rule 2).
func refused(t *testing.T, marked string, code api.Errno) {
	t.Helper()
	text, want := told(marked, code)
	got, f := index.Parse(text)
	if f != want || got.Source != "" || got.Entries != nil {
		t.Errorf("%q: %v, %v; want %v", marked, got, f, want)
	}
}

// parsed: the index of a text; it may be one (P7.3).
func parsed(t *testing.T, text string) index.Index {
	t.Helper()
	x, f := index.Parse(text)
	if f != fine {
		t.Fatalf("%q: %v", text, f)
	}
	if e := x.Check(); e != api.OK {
		t.Fatalf("%q: Check is %d", text, e)
	}
	return x
}

// P7.1, P7.2: an index with something of each kind.
func TestRich(t *testing.T) {
	if got := parsed(t, richText); !same(got, rich()) {
		t.Errorf("%+v", got)
	}
	if text, e := rich().Text(); text != richText || e != api.OK {
		t.Errorf("%d\n%s", e, text)
	}
	// Blanks, remarks and lines without words are nothing.
	loose := "# what main has\n\n\t" + strings.ReplaceAll(strings.ReplaceAll(richText, " ", " \t "), "\n", " # entry b\n \n") + "\n#"
	if got := parsed(t, loose); !same(got, rich()) {
		t.Errorf("%+v", got)
	}
	if got := parsed(t, strings.TrimSuffix(richText, "\n")); !same(got, rich()) {
		t.Errorf("%+v", got)
	}
}

// P7.1: entries as they stand in the text; sorted in the text that is written.
func TestOrder(t *testing.T) {
	const high, low, ahead = "entry b 1.0.0 0000000000000001 -\nneed x *\n", "entry b 1.0.0-a 0000000000000002 -\n", "entry a 2.0.0 0000000000000003 -\nban y *\n"
	x := parsed(t, "index s\n"+high+low+ahead)
	if len(x.Entries) != 3 || x.Entries[0].Digest != 1 || x.Entries[1].Digest != 2 || x.Entries[2].Digest != 3 {
		t.Errorf("%+v", x)
	}
	if text, e := x.Text(); text != "index s\n"+ahead+low+high || e != api.OK {
		t.Errorf("%q, %d", text, e)
	}
	if len(x.Entries) != 3 || x.Entries[0].Digest != 1 || len(x.Entries[0].Needs) != 1 {
		t.Errorf("what has been written is changed: %+v", x)
	}
}

// P7.1: no line at all; no entry.
func TestNoLine(t *testing.T) {
	for _, text := range []string{"", "\n", " \t\n\n", "# index main\n", "#", strings.Repeat("\n", api.MaxLines)} {
		if x, f := index.Parse(text); f != (api.Fault{Code: api.Syntax}) || x.Source != "" || x.Entries != nil {
			t.Errorf("%q: %v, %v", text, x, f)
		}
	}
	for _, text := range []string{"index main\n", "index main", "\n  index\tmain # and nothing more"} {
		if x := parsed(t, text); x.Source != "main" || len(x.Entries) != 0 {
			t.Errorf("%q: %v", text, x)
		}
	}
	if text, e := (index.Index{Source: "main"}).Text(); text != "index main\n" || e != api.OK {
		t.Errorf("%q, %d", text, e)
	}
}

const begin = "\nindex main\n entry a 1.0.0 00000000000000aa ac\n"

// P7.1: wrong words, words that are missing or left, and where that is told.
func TestParseSyntax(t *testing.T) {
	for _, marked := range []string{
		"  [entry a 1.0.0 00000000000000aa -\n", "[main", "[Index main", "[indexes main", "[ban a *", "[need a *", "[feature f", "[x\nindex main",
		"\n index]", "index [Main", "index [@a/b", "index [-", "index [*", "index main [main", "index main [yanked\n", "index [index-", "index [abcdefghijklmnopqrstu",
		"index main\n\n\t[index main", "index main\n[index other\n", begin + " [index main", begin + "need b *\nfeature f\n[index main\n",
		"index main\n[ban a *", "index main\n[need a *", "index main\n[feature f", "index main\n[entries a", "index main\n[ENTRY a 1.0.0 00000000000000aa -", "index main\n [yanked",
		begin + "[bans b *", begin + "[Need b *", begin + "[features f", begin + "[root b *", begin + "[a 1.0.0 00000000000000aa -", begin + "[-",

		"index main\nentry]", "index main\nentry [A", "index main\nentry [@lib 1.0.0 00000000000000aa -", "index main\nentry [@a/b/c 1.0.0", "index main\nentry [a- 1.0.0", "index main\nentry [1.0.0 00000000000000aa -",
		"index main\nentry a]", "index main\nentry a [1.0", "index main\nentry a [1.02.0 00000000000000aa -", "index main\nentry a [1.0.0-A x", "index main\nentry a [1000000.0.0 x", "index main\nentry a [=1.0.0 x", "index main\nentry a [*",
		"index main\nentry a 1.0.0]", "index main\nentry a 1.0.0 [aa -", "index main\nentry a 1.0.0 [00000000000000AA -", "index main\nentry a 1.0.0 [00000000000000aag", "index main\nentry a 1.0.0 [yanked", "index main\nentry a 1.0.0 [000000000000000aa",
		"index main\nentry a 1.0.0 00000000000000aa]", "index main\nentry a 1.0.0 00000000000000aa [ca", "index main\nentry a 1.0.0 00000000000000aa [--", "index main\nentry a 1.0.0 00000000000000aa [A", "index main\nentry a 1.0.0 00000000000000aa [yanked", "index main\nentry a 1.0.0 00000000000000aa [0",
		"index main\nentry a 1.0.0 00000000000000aa - [Yanked", "index main\nentry a 1.0.0 00000000000000aa - [-", "index main\nentry a 1.0.0 00000000000000aa - [x yanked", "index main\nentry a 1.0.0 00000000000000aa - yanked [yanked", "index main\nentry a 1.0.0 00000000000000aa - yanked [x\n", "index main\nentry a 1.0.0 00000000000000aa - [yank",

		begin + "ban]", begin + "ban [B *", begin + "ban [* b", begin + "ban b]", begin + "ban b [1.0.0", begin + "ban b [b", begin + "ban b [=1.0.0, x", begin + "ban b * [f", begin + "ban b * [* x", begin + "ban b * [A",
		begin + "need]", begin + "need [b@ *", begin + "need [* b", begin + "need b]", begin + "need b [f", begin + "need b [==1.0.0 x", begin + "need b [*|", begin + "need b * [F", begin + "need b * f [@a/b f", begin + "need b * f g h i [-", begin + "need b * f g h i [J j", begin + "need b * [*",
		begin + "feature]", begin + "feature [F", begin + "feature [@a/b", begin + "feature [*", begin + "feature f [g", begin + "feature f [*", begin + "feature f [f",
		begin + "feature f\nneed]", begin + "feature f\nneed [B", begin + "feature f\nneed b [1", begin + "feature f\nneed b * [F",

		// The first of several.
		begin + "[x y z\nx", begin + "ban [B b c", begin + "need [B", begin + "[feat f\nneed", "index [A b", "index main\nentry [A 1 2 3 4", begin + "need b * f [F f\nban", "index main [x\nindex main",
	} {
		refused(t, marked, api.Syntax)
	}
}

// next is an entry's own line that may stand behind begin.
const next = "entry b 1.0.0 0000000000000000 -\n"

// P7.1: bans behind needs or features, of whatever else is wrong with them.
func TestParseBansBehind(t *testing.T) {
	for _, marked := range []string{
		"need b *\n [ban b *", "feature f\n[ban b *", "feature f\nneed b *\n[ban b *", "need b *\nfeature f\n[ban b *", "ban b *\nneed b *\n\n  [ban b *",
		"need b *\n[ban", "feature f\n[ban B", "need b *\n[ban b * f", "ban b *\nban b *\nban b *\nban b *\nneed b *\n[ban b *", next + "feature f\n[ban b *",
	} {
		refused(t, begin+marked, api.Syntax)
	}
	x := parsed(t, begin+"ban b *\nneed c *\nfeature f\nneed d *\n"+next+"ban e *\nban a *\n")
	if len(x.Entries) != 2 || len(x.Entries[0].Bans) != 1 || len(x.Entries[1].Bans) != 2 || x.Entries[1].Bans[1].Name != "a" {
		t.Errorf("%+v", x)
	}
}

// P7.1: whose a need is: the entry's own, or its last feature's.
func TestParseNeeds(t *testing.T) {
	x := parsed(t, begin+"need a *\nneed b =1.0.0 f g\nneed a *\nfeature f\nneed c *\nfeature h\nfeature g\nneed d * f\nneed e *\n"+next+"need g *\nfeature f\n"+"entry c 1.0.0 0000000000000000 -\nfeature f\nneed a *\n")
	want := index.Index{Source: "main", Entries: []index.Entry{entry("a", "1.0.0", 0xaa), entry("b", "1.0.0", 0), entry("c", "1.0.0", 0)}}
	want.Entries[0].Labels = 5
	want.Entries[0].Needs = []index.Need{need("a", "*"), need("b", "=1.0.0", "f", "g"), need("a", "*")}
	want.Entries[0].Feats = []index.Feat{{Name: "f", Needs: []index.Need{need("c", "*")}}, {Name: "h"}, {Name: "g", Needs: []index.Need{need("d", "*", "f"), need("e", "*")}}}
	want.Entries[1].Needs = []index.Need{need("g", "*")}
	want.Entries[1].Feats = []index.Feat{{Name: "f"}}
	want.Entries[2].Feats = []index.Feat{{Name: "f", Needs: []index.Need{need("a", "*")}}}
	if !same(x, want) {
		t.Errorf("%+v", x)
	}
}

// P7.1: what is there already, ahead of what is wrong behind it; and what isn't.
func TestParseTwice(t *testing.T) {
	for _, marked := range []string{
		"entry a [1.0.0 0000000000000001 b\n", "entry a [1.0.0", "entry a [1.0.0 X Y Z", "need b *\n\n" + next + "  entry a\t[1.0.0 00000000000000aa ac", next + "entry a 1.0.0-a 0000000000000000 -\nfeature f\nentry b [1.0.0 0000000000000000 - x",
		"feature f\nfeature [f", "feature f\nneed b *\nfeature g\nfeature  [f g", "feature f\nfeature g\nfeature [g", "feature f\nfeature g\nfeature h\nfeature [f",
		"need b * f [f", "need b * f g [f F", "need b * f g h i [f", "need b * f g h i [i j", "need b * f g h [g i j k", "feature f\nneed b * f g [g",
	} {
		refused(t, begin+marked, api.Twice)
	}
	for _, more := range []string{
		"entry a 1.0.1 00000000000000aa ac", "entry a 1.0.0-a 00000000000000aa ac\nentry a 1.0.0-a.0 00000000000000aa ac\nentry a 1.0.0-b 00000000000000aa ac", "entry @a/a 1.0.0 00000000000000aa ac\nentry @b/a 1.0.0 00000000000000aa ac\nentry main 1.0.0 00000000000000aa ac",
		"feature f\n" + next + "feature f\n", "feature a\nfeature main\nfeature need", "need b * b f\nneed b * b f\nfeature b\nneed b * b f\nneed b * b f", "ban b *\nban b *", "need b * need ban entry feature",
	} {
		parsed(t, begin+more)
	}
}

// repeat: so many texts with their numbers instead of a %.
func repeat(n int, s string) string {
	text := ""
	for i := range n {
		text += strings.ReplaceAll(s, "%", num("", i))
	}
	return text
}

// P7.1: so many entries, bans, needs of each list, features of an entry and of a need, and not one more; which is told at the first word, ahead of all other words.
func TestParseBounds(t *testing.T) {
	for _, c := range []struct{ full, more string }{
		{"index main\n" + repeat(api.MaxEntries, "entry a 1.0.% 0000000000000000 -\nneed b *\n"), "entry b 1.0.0 0000000000000000 -"},
		{"index main\n" + repeat(api.MaxEntries, "entry a 1.0.% 0000000000000000 -\nneed b *\n"), "entry a 1.0.7 0000000000000000 -"},
		{begin + repeat(api.MaxBans, "ban b *\n"), "ban b *"},
		{begin + "entry b 1.0.0 00000000000000aa ac\n" + repeat(api.MaxBans, "ban b *\n"), "ban b *"},
		{begin + repeat(api.MaxNeeds, "need b * f\n"), "need b * f"},
		{begin + repeat(api.MaxBans, "ban b *\n") + repeat(api.MaxNeeds, "need b *\n"), "need b *"},
		{begin + "feature f\n" + repeat(api.MaxNeeds, "need b *\n"), "need b *"},
		{begin + repeat(api.MaxNeeds, "need b *\n") + "feature f\n" + repeat(api.MaxNeeds, "need b *\n"), "need b * f"},
		{begin + "feature f\n" + repeat(api.MaxNeeds, "need b *\n") + "feature g\n" + repeat(api.MaxNeeds, "need b *\n"), "need b *"},
		{begin + repeat(api.MaxFeats, "feature f%\n"), "feature g"},
		{begin + repeat(api.MaxFeats, "feature f%\n"), "feature f0"},
		{begin + repeat(api.MaxFeats, "feature f%\n"+repeat(api.MaxNeeds, "need b *\n")), "feature g"},
	} {
		x := parsed(t, c.full)
		if text, e := x.Text(); e != api.OK || !same(parsed(t, text), x.Sorted()) {
			t.Errorf("%q has the text %q, %d", c.full, text, e)
		}
		word, _, _ := strings.Cut(c.more, " ")
		for _, more := range []string{c.more, c.more + "\n", c.more + " x", word, word + " A A A", word + "\nx"} {
			refused(t, c.full+"\n \t["+more, api.Bound)
		}
		// Of the next entry all is counted anew.
		if word != "entry" {
			parsed(t, c.full+"entry z 1.0.0 0000000000000000 -\n"+c.full[strings.LastIndex(c.full, "ac\n")+3:])
		}
	}
	for _, marked := range []string{"need b * f g h i [j", "need b * f g h i [j F", "need b * f g h i [j k l m n", "feature f\nneed b * f g h i [b", "need b * f g h i [j j"} {
		refused(t, begin+marked, api.Bound)
	}
	if x := parsed(t, begin+"need b * f g h i"); len(x.Entries[0].Needs[0].Feats) != api.MaxFeats {
		t.Error(x)
	}
}

// P7.1: what layer 1 refuses is told ahead of all that lines must be.
func TestParseRead(t *testing.T) {
	long := strings.Repeat("a", api.MaxWord+1)
	for text, want := range map[string]api.Fault{
		"x\n\x00":                                                     {Code: api.Syntax, Line: 2, Col: 1},
		"index main\nentry a\xff b":                                   {Code: api.Syntax, Line: 2, Col: 8},
		"index A\nindex main\r\n":                                     {Code: api.Syntax, Line: 2, Col: 11},
		"x\nindex " + long:                                            {Code: api.Bound, Line: 2, Col: 7},
		strings.Repeat("x ", 21):                                      {Code: api.Bound, Line: 1, Col: 41},
		"x" + strings.Repeat("\n", api.MaxLines) + "x":                {Code: api.Bound, Line: api.MaxLines + 1},
		"index main\n" + strings.Repeat("#", api.MaxText):             {Code: api.Bound},
		"\x00\n" + strings.Repeat("\n", api.MaxText):                  {Code: api.Bound},
		begin + "ban b * f\nentry a 1.0.0\nneed b " + long + "\n\x00": {Code: api.Bound, Line: 6, Col: 8},
	} {
		if x, f := index.Parse(text); f != want || x.Source != "" || x.Entries != nil {
			t.Errorf("%.60q: %v, %v; want %v", text, x, f, want)
		}
	}
	rest := api.MaxText - len(richText)
	if got := parsed(t, richText+strings.Repeat("#", rest)); !same(got, rich()) {
		t.Error(got)
	}
	if got := parsed(t, strings.Repeat("\n", api.MaxLines-strings.Count(richText, "\n"))+richText); !same(got, rich()) {
		t.Error(got)
	}
}

// long: an index whose text has so many lines, and so many bytes. It is read entry by entry, as it may have too much of either.
func long(t *testing.T, rows, size int) index.Index {
	t.Helper()
	const whole = 45 // lines of an entry that has as many needs and features as may be
	var l []string
	have := len("index main\n")
	for i := range rows - 1 {
		line := "need a *\n"
		switch i % whole {
		case 0:
			line = "entry a " + num("1.0.", 100+i/whole) + " 0000000000000000 -\n"
		case 9, 18, 27, 36:
			line = num("feature f", i%whole) + "\n"
		}
		l = append(l, line)
		have += len(line)
	}
	for i, line := range l {
		if strings.HasPrefix(line, "need") {
			more := min(19, size-have)
			l[i] = "need a" + strings.Repeat("a", more) + " *\n"
			have += more
		}
	}
	if have != size {
		t.Fatal(have, "bytes instead of", size)
	}
	x := index.Index{Source: "main"}
	for one := range slices.Chunk(l, whole) {
		x.Entries = append(x.Entries, parsed(t, "index main\n"+strings.Join(one, "")).Entries...)
	}
	return x
}

// P7.1: a text that is as long as may be, and one byte or one line longer.
func TestTextBounds(t *testing.T) {
	for _, c := range []struct {
		rows, size int
		want       api.Errno
	}{
		{780, api.MaxText - 1, api.OK},
		{780, api.MaxText, api.OK},
		{780, api.MaxText + 1, api.Bound},
		{api.MaxLines - 1, 9500, api.OK},
		{api.MaxLines, 9500, api.OK},
		{api.MaxLines + 1, 9500, api.Bound},
		{api.MaxLines, api.MaxText, api.OK},
		{api.MaxLines, api.MaxText + 1, api.Bound},
		{api.MaxLines + 1, api.MaxText, api.Bound},
	} {
		x := long(t, c.rows, c.size)
		if e := x.Check(); e != api.OK {
			t.Fatal(c, e)
		}
		text, e := x.Text()
		if e != c.want || e != api.OK && text != "" || e == api.OK && (len(text) != c.size || strings.Count(text, "\n") != c.rows) {
			t.Errorf("%v: %d bytes, %d", c, len(text), e)
		}
		if e == api.OK && !same(parsed(t, text), x) {
			t.Errorf("%v: it isn't parsed as it was", c)
		}
	}
	// So many entries with as much as each may have are too much.
	x := index.Index{Source: "main"}
	for i := range api.MaxEntries {
		e := full()
		e.Version.N[2] = i
		x.Entries = append(x.Entries, e)
	}
	if text, e := x.Text(); text != "" || e != api.Bound || x.Check() != api.OK {
		t.Error(len(text), e, x.Check())
	}
	// What may not be is told ahead of that.
	x.Entries[59].Labels = 1 << 26
	if text, e := x.Text(); text != "" || e != api.Syntax {
		t.Error(len(text), e)
	}
}

// P7.2: words that are as long as may be, and lines of as many.
func TestTextLongest(t *testing.T) {
	long := strings.Repeat("a", 20)
	wide := "=999999.999999.999999-abcdefgh.abcdefgh|!=999999.999999.999999-abcdefgh.abcdefgh"
	if len(wide) != api.MaxWord {
		t.Fatal(len(wide))
	}
	e := entry("@"+long+"/"+long, "999999.999999.999999-abcdefgh.abcdefgh.abcdefgh.abcdefgh", 1<<64-1)
	e.Labels, e.Yanked = mark.All, true
	e.Bans = []index.Need{need(e.Name, wide)}
	e.Needs = []index.Need{need(e.Name, wide, long, long[1:], long[2:], long[3:])}
	e.Feats = []index.Feat{{Name: long, Needs: e.Needs}}
	x := index.Index{Source: long, Entries: []index.Entry{e}}
	text, err := x.Text()
	if err != api.OK || !same(parsed(t, text), x) {
		t.Errorf("%q, %d", text, err)
	}
}

// Rule 4: lists of an answer share nothing with one another, nor with a later answer.
func TestParseNewMemory(t *testing.T) {
	x := parsed(t, richText)
	for i := range x.Entries {
		e := &x.Entries[i]
		_ = append(e.Bans, need("z", "*"))
		_ = append(e.Needs, need("z", "*"))
		_ = append(e.Feats, index.Feat{Name: "z"})
		for _, l := range [][]index.Need{e.Bans, e.Needs} {
			for j := range l {
				_ = append(l[j].Feats, "z")
			}
		}
		for j := range e.Feats {
			_ = append(e.Feats[j].Needs, need("z", "*"))
		}
	}
	if !same(x, rich()) {
		t.Errorf("one list is changed through another one: %+v", x)
	}
	x.Entries[0].Needs[1].Feats[0] = "changed"
	x.Entries[1].Name = "changed"
	if got := parsed(t, richText); !same(got, rich()) {
		t.Errorf("%+v", got)
	}
}

// taken is what TakeNeed answers of a line's words behind the first one, and the fault that Each tells.
func taken(t *testing.T, text string, most int) (index.Need, api.Fault) {
	t.Helper()
	l, f := lines.Read(text)
	if f != fine || len(l) != 1 {
		t.Fatal(text, f)
	}
	var n index.Need
	f = lines.Each(l, func(r *lines.Reader) {
		r.Word()
		n = index.TakeNeed(r, most)
	})
	return n, f
}

// P7.1: a need's words behind the first one, with at most so many features.
func TestTakeNeed(t *testing.T) {
	for _, c := range []struct {
		text string
		most int
		want index.Need
	}{
		{"need @lib/a ^1.0.0|*", 0, need("@lib/a", "^1.0.0|*")},
		{"x a *", -1, need("a", "*")},
		{"x a *", -1 << 63, need("a", "*")},
		{"x a *", 4, need("a", "*")},
		{"x a * f", 1, need("a", "*", "f")},
		{"x a * f g", 2, need("a", "*", "f", "g")},
		{"x a * f g", 1 << 62, need("a", "*", "f", "g")},
		{"x a * f g h i j k l", 7, need("a", "*", "f", "g", "h", "i", "j", "k", "l")},
	} {
		n, f := taken(t, c.text, c.most)
		if f != fine || !same(index.Index{Entries: []index.Entry{{Needs: []index.Need{n}}}}, index.Index{Entries: []index.Entry{{Needs: []index.Need{c.want}}}}) {
			t.Errorf("%q, at most %d: %v, %v", c.text, c.most, n, f)
		}
		if e := index.CheckNeed(n, max(c.most, 0)); e != api.OK {
			t.Errorf("%q: CheckNeed is %d", c.text, e)
		}
	}
	for _, c := range []struct {
		marked string
		most   int
		code   api.Errno
	}{
		{"x]", 4, api.Syntax}, {"x a]", 4, api.Syntax}, {"x [A *", 4, api.Syntax}, {"x a [1", 4, api.Syntax}, {"x [* a", 0, api.Syntax}, {"x]", -1, api.Syntax},
		// No feature is read: the next word is one that is left.
		{"x a * [f", 0, api.Syntax}, {"x a * [f", -1, api.Syntax}, {"x a * [f f", -1 << 63, api.Syntax}, {"x a * [F", 0, api.Syntax},
		{"x a * [F", 1, api.Syntax}, {"x a * f [@a/b", 2, api.Syntax}, {"x a * f [F", 1, api.Syntax},
		{"x a * f [f", 1, api.Twice}, {"x a * f [f", 2, api.Twice}, {"x a * f g [f h", 9, api.Twice},
		{"x a * f [g", 1, api.Bound}, {"x a * f g [h", 2, api.Bound}, {"x a * f g [h f", 2, api.Bound},
	} {
		text, want := told(c.marked, c.code)
		if n, f := taken(t, text, c.most); f != want || n.Feats != nil || n.Name != "" && c.most > 0 {
			t.Errorf("%q, at most %d: %v, %v; want %v", c.marked, c.most, n, f, want)
		}
	}
	// Rule 6: a nil object.
	if n := index.TakeNeed(nil, 4); n.Name != "" || n.Range.Alts != nil || n.Feats != nil {
		t.Error(n)
	}
}

// P7.1: a reader goes on behind what was taken.
func TestTakeNeedGoesOn(t *testing.T) {
	l, _ := lines.Read("x a * y b =1.0.0 f g\n")
	f := lines.Each(l, func(r *lines.Reader) {
		r.Word()
		a := index.TakeNeed(r, 0)
		if !r.Is("y") || a.Name != "a" {
			t.Error(a)
		}
		b := index.TakeNeed(r, 2)
		if b.Name != "b" || !b.Range.Has(v("1.0.0")) || len(b.Feats) != 2 || r.More() {
			t.Error(b)
		}
	})
	if f != fine {
		t.Error(f)
	}
}
