package index_test

import (
	"math/rand/v2"
	"regexp"
	"slices"
	"strings"
	"testing"

	"chandler/api"
	"chandler/index"
	"chandler/lines"
	"chandler/mark"
	"chandler/name"
	"chandler/spec"
	"chandler/version"
)

// order: how lines follow one another, by the letters that they begin with, told in another way than the program does.
var order = regexp.MustCompile(`\Ai(?:eb*n*(?:fn*)*)*\z`)

// heads: the letters that lines begin with; ? is a line that is none.
func heads(l []lines.Line) string {
	text := ""
	for _, line := range l {
		switch line.Words[0] {
		case "index", "entry", "ban", "need", "feature":
			text += line.Words[0][:1]
		default:
			text += "?"
		}
	}
	return text
}

// behind: what stands behind the last of some letters; all, if there is none.
func behind(s, letters string) string { return s[strings.LastIndexAny(s, letters)+1:] }

// beyond: is the last of these lines beyond what may be?
func beyond(s string) bool {
	own := behind(s, "e")
	switch s[len(s)-1] {
	case 'e':
		return strings.Count(s, "e") > api.MaxEntries
	case 'b':
		return strings.Count(own, "b") > api.MaxBans
	case 'n':
		return len(behind(strings.ReplaceAll(own, "b", ""), "f")) > api.MaxNeeds
	case 'f':
		return strings.Count(own, "f") > api.MaxFeats
	}
	return false
}

// isVersion and those below: what words there are.
func isVersion(s string) bool { _, ok := version.Parse(s); return ok }
func isRange(s string) bool   { _, ok := spec.Parse(s); return ok }
func isLabels(s string) bool  { _, ok := mark.Parse(s); return ok }
func isDigest(s string) bool  { _, ok := mark.ParseDigest(s); return ok }
func isYanked(s string) bool  { return s == "yanked" }

// forms: what the words of a line behind the first one must be, how many of them must be there, and whether the last form may be there again and again.
func forms(head byte) (l []func(string) bool, least int, again bool) {
	switch head {
	case 'e':
		return []func(string) bool{name.Check, isVersion, isDigest, isLabels, isYanked}, 4, false
	case 'b':
		return []func(string) bool{name.Check, isRange}, 2, false
	case 'n':
		return []func(string) bool{name.Check, isRange, name.Plain}, 2, true
	}
	return []func(string) bool{name.Plain}, 1, false
}

// known: does the word at that place say something that stands ahead?
func known(l []lines.Line, s string, at int) bool {
	last := len(l) - 1
	words := l[last].Words
	for i, line := range l[:last] {
		switch {
		case s[last] == 'e' && at == 2 && s[i] == 'e' && slices.Equal(line.Words[1:3], words[1:3]):
			return true
		case s[last] == 'f' && s[i] == 'f' && i >= strings.LastIndex(s, "e") && line.Words[1] == words[1]:
			return true
		}
	}
	return s[last] == 'n' && at > 2 && slices.Contains(words[3:at], words[at])
}

// wrongLine: the fault of the last of some lines, whose others are as they must be.
func wrongLine(l []lines.Line) api.Fault {
	last := l[len(l)-1]
	at := func(place int, code api.Errno) api.Fault {
		f := api.Fault{Code: code, Line: last.No}
		if place < len(last.Words) {
			f.Col = last.Cols[place]
		}
		return f
	}
	s := heads(l)
	if !order.MatchString(s) {
		return at(0, api.Syntax)
	}
	if beyond(s) {
		return at(0, api.Bound)
	}
	l1, least, again := forms(s[len(s)-1])
	for i := 1; i <= max(least, len(last.Words)-1); i++ {
		switch {
		case i == len(last.Words), i > len(l1) && !again, !l1[min(i, len(l1))-1](last.Words[i]):
			return at(i, api.Syntax)
		case known(l, s, i):
			return at(i, api.Twice)
		case again && i > least+api.MaxFeats:
			return at(i, api.Bound)
		}
	}
	return api.Fault{}
}

// wrong: a text's fault, told in another way than the program does: of each line all is counted anew.
func wrong(text string) api.Fault {
	l, f := lines.Read(text)
	if f.Code != api.OK {
		return f
	}
	for i := range l {
		if f := wrongLine(l[:i+1]); f.Code != api.OK {
			return f
		}
	}
	if len(l) == 0 {
		return api.Fault{Code: api.Syntax}
	}
	return api.Fault{}
}

// asked: the program says of one text what the other way does; what is parsed may be one (P7.3), and what has a text is parsed as Sorted (P7.2).
func asked(t *testing.T, text string) bool {
	t.Helper()
	x, f := index.Parse(text)
	if want := wrong(text); f != want {
		t.Fatalf("%q: %v, want %v", text, f, want)
	}
	if f != fine {
		if x.Source != "" || x.Entries != nil {
			t.Fatalf("%q: %v beside a fault", text, x)
		}
		return false
	}
	if e := x.Check(); e != api.OK {
		t.Fatalf("%q: Check is %d", text, e)
	}
	written(t, x)
	return true
}

// written: what has a text is parsed as Sorted (P7.2).
func written(t *testing.T, x index.Index) {
	t.Helper()
	text, e := x.Text()
	if check := x.Check(); check != api.OK && (e != check || text != "") {
		t.Fatalf("%+v: %q, %d, want %d", x, text, e, check)
	}
	if e != api.OK {
		return
	}
	got, f := index.Parse(text)
	if f != fine || !same(got, x.Sorted()) {
		t.Fatalf("%q: %v, %v", text, f, got)
	}
	if again, e := got.Text(); again != text || e != api.OK {
		t.Fatalf("%q is written as %q, %d", text, again, e)
	}
}

// P7.1: all rows of up to six lines of each kind.
func TestAllShortTexts(t *testing.T) {
	kinds := []string{"index main\n", "entry a 1.0.% 0000000000000000 -\n", "ban b *\n", "need b * f\n", "feature f%\n", "x\n"}
	texts := []string{""}
	fit := 0
	for n := range 6 {
		var longer []string
		for _, text := range texts {
			for _, kind := range kinds {
				more := text + strings.ReplaceAll(kind, "%", num("", n))
				if asked(t, more) {
					fit++
					longer = append(longer, more)
				} else if n < 2 {
					// What stands behind a fault changes nothing.
					longer = append(longer, more)
				}
			}
		}
		texts = longer
	}
	if fit < 200 {
		t.Error(fit, "texts of indexes")
	}
}

// words that stand somewhere in an index, and some that don't.
var words = []string{"index", "entry", "ban", "need", "feature", "main", "a", "@lib/a", "A", "@a", "1.0.0", "1.0", "*", "=1.0.0", "^1.0.0|*", "00000000000000aa", "aa", "-", "ac", "ca", "yanked", "tls", "x", "f", "b", "@lib/c", "0.0.0", "1.2.0-rc.2"}

// P7.1: each word left out, twice there, one behind it, or another one instead; each line left out, twice there, and instead of another one.
func TestMutants(t *testing.T) {
	var l [][]string
	for row := range strings.Lines(richText) {
		l = append(l, strings.Fields(row))
	}
	for i, row := range l {
		for j := range row {
			for _, instead := range append([][]string{nil, {row[j], row[j]}}, pairs(row[j])...) {
				with := slices.Replace(slices.Clone(l), i, i+1, slices.Replace(slices.Clone(row), j, j+1, instead...))
				asked(t, lines.Write(with...))
			}
		}
		asked(t, lines.Write(slices.Delete(slices.Clone(l), i, i+1)...))
		asked(t, lines.Write(slices.Insert(slices.Clone(l), i, row)...))
		for _, other := range l {
			asked(t, lines.Write(slices.Replace(slices.Clone(l), i, i+1, other)...))
			asked(t, lines.Write(slices.Insert(slices.Clone(l), i, other)...))
		}
	}
}

// pairs: what may stand instead of a word: each of words, alone, and behind it.
func pairs(word string) [][]string {
	var l [][]string
	for _, w := range words {
		l = append(l, []string{w}, []string{word, w})
	}
	return l
}

// dice throw what an index may have, and now and then what it may not.
type dice struct{ *rand.Rand }

func one[T any](d dice, l ...T) T { return l[d.IntN(len(l))] }

// some: of one to so many things that many.
func some[T any](d dice, most int, by func(i int) T) []T {
	var l []T
	for i := range d.IntN(most + 1) {
		l = append(l, by(i))
	}
	return l
}

func (d dice) need(feats int) index.Need {
	n := need(one(d, "a", "b", "@lib/a", "@lib/c-x", "z9"), one(d, "*", "=1.0.0", "^0.2.1", ">=1.0.0-b,<2.0.0", "!=1.2.3|~4.5.6", "<1.0.0|>2.0.0|*|<=3.0.0"))
	n.Feats = some(d, feats, func(i int) string { return num(one(d, "f", "g"), i) })
	if d.IntN(400) == 0 {
		n.Feats = append(n.Feats, "f0", "f0")
	}
	return n
}

func (d dice) entry() index.Entry {
	x := entry(one(d, "a", "b", "@lib/a", "@lib/c-x", "z9"), one(d, "0.0.1", "1.0.0", "1.2.0-rc.2", "1.2.0-rc.10", "1.2.0", "999999.0.0-a-b.0"), mark.Digest(d.Uint64()))
	x.Labels = one(d, 0, 1, 5, mark.All, mark.Labels(d.IntN(1<<26)))
	x.Yanked = d.IntN(2) == 0
	x.Version.N[2] += d.IntN(30)
	x.Bans = some(d, api.MaxBans, func(int) index.Need { return d.need(0) })
	needs := func() []index.Need {
		return some(d, one(d, 1, api.MaxNeeds), func(int) index.Need { return d.need(api.MaxFeats) })
	}
	x.Needs = needs()
	x.Feats = some(d, one(d, 1, api.MaxFeats), func(i int) index.Feat { return index.Feat{Name: num("f", i), Needs: needs()} })
	if d.IntN(100) == 0 {
		x.Labels |= 1 << 26
	}
	return x
}

// P7.2: what has a text is parsed as Sorted; it has the same text in whatever order its entries stand.
func TestRandomIndexes(t *testing.T) {
	d := dice{rand.New(rand.NewPCG(7, 11))}
	texts := 0
	for range 3000 {
		x := index.Index{Source: one(d, "main", "far-9", "a")}
		x.Entries = some(d, one(d, 2, 12, 30), func(int) index.Entry { return d.entry() })
		written(t, x)
		text, e := x.Text()
		if e != api.OK {
			continue
		}
		texts++
		d.Shuffle(len(x.Entries), func(i, j int) { x.Entries[i], x.Entries[j] = x.Entries[j], x.Entries[i] })
		if again, e := x.Text(); again != text || e != api.OK {
			t.Fatalf("in another order %q is %q, %d", text, again, e)
		}
		l := strings.SplitAfter(text, "\n")
		d.Shuffle(len(l)/2, func(i, j int) { l[i], l[j] = l[j], l[i] })
		asked(t, strings.Join(l, ""))
	}
	if texts < 1000 {
		t.Error(texts, "indexes with a text")
	}
}

// P7.1, rule 6: random rows of words.
func TestRandomTexts(t *testing.T) {
	d := dice{rand.New(rand.NewPCG(1, 2))}
	rows := []string{"index main", "entry a 1.0.% 0000000000000000 -", "entry b 1.0.% 00000000000000aa ac yanked", "ban b *", "need b *", "need b * f g h i", "feature f%", "feature f", "need a * %"}
	fit := 0
	for range 20000 {
		text := "index main\nentry a 1.0.0 0000000000000000 -\n"
		for i := range d.IntN(30) {
			text += strings.ReplaceAll(one(d, rows[1:]...), "%", num("", i+1))
			for d.IntN(20) == 0 {
				text += " " + one(d, words...)
			}
			text += "\n"
		}
		if asked(t, text) {
			fit++
		}
	}
	if fit < 1000 {
		t.Error(fit, "texts of indexes")
	}
}
