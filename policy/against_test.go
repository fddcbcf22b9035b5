package policy_test

import (
	"math"
	"math/rand/v2"
	"slices"
	"strings"
	"testing"

	"chandler/api"
	"chandler/lines"
	"chandler/mark"
	"chandler/name"
	"chandler/policy"
	"chandler/score"
	"chandler/version"
)

// What words there are.
func isScore(s string) bool   { _, ok := score.Parse(s); return ok }
func isVersion(s string) bool { _, ok := version.Parse(s); return ok }
func isDigest(s string) bool  { _, ok := mark.ParseDigest(s); return ok }
func isLabels(s string) bool  { _, ok := mark.Parse(s); return ok }
func isOpen(s string) bool    { return s == "open" || s == "closed" }
func isKind(s string) bool    { return s == "allow" || s == "deny" || s == "first" }
func isAny(string) bool       { return true }

// shape: what the words of a line behind the first one must be, how many of them must be there, how many lines of the kind may be, and whether the last form may be there again and again.
type shape struct {
	forms       []func(string) bool
	least, most int
	again       bool
}

func shapes(word string) shape {
	switch word {
	case "source":
		return shape{[]func(string) bool{name.Plain, isScore, isOpen}, 3, 8, false}
	case "claim":
		return shape{[]func(string) bool{name.Glob, isKind, isAny}, 2, 16, true}
	case "pin":
		return shape{[]func(string) bool{name.Check, isVersion}, 2, 16, false}
	case "hash":
		return shape{[]func(string) bool{name.Check, isDigest}, 2, 16, true}
	case "tenant":
		return shape{[]func(string) bool{name.Plain, isLabels}, 2, 8, false}
	}
	return shape{}
}

// column: the second words of the lines that begin with that word.
func column(l []lines.Line, word string) []string {
	var out []string
	for _, line := range l {
		if line.Words[0] == word && len(line.Words) > 1 {
			out = append(out, line.Words[1])
		}
	}
	return out
}

// odd: what is wrong with the word at a place, that has its form, of a line behind others.
func odd(ahead []lines.Line, words []string, at int) api.Errno {
	known := slices.Contains(words[min(at, 2):at], words[at])
	switch {
	case at == 1 && slices.Contains(column(ahead, words[0]), words[1]):
		return api.Twice
	case words[0] == "claim" && at > 2 && !slices.Contains(column(ahead, "source"), words[at]):
		return api.Missing
	case (words[0] == "claim" && at > 2 || words[0] == "hash") && known:
		return api.Twice
	case words[0] == "hash" && at > 5:
		return api.Bound
	}
	return api.OK
}

// wrongLine: the fault of a line behind others, that are as they must be.
func wrongLine(ahead []lines.Line, line lines.Line) api.Fault {
	at := func(place int, code api.Errno) api.Fault {
		f := api.Fault{Code: code, Line: line.No}
		if place < len(line.Words) {
			f.Col = line.Cols[place]
		}
		return f
	}
	of := shapes(line.Words[0])
	same := 0
	for _, other := range ahead {
		if other.Words[0] == line.Words[0] {
			same++
		}
	}
	switch {
	case (len(ahead) == 0) != (line.Words[0] == "policy"), len(ahead) > 0 && of.most == 0:
		return at(0, api.Syntax)
	case len(ahead) > 0 && same == of.most:
		return at(0, api.Bound)
	}
	for i := 1; i <= max(of.least, len(line.Words)-1); i++ {
		if i == len(line.Words) || i > len(of.forms) && !of.again || !of.forms[min(i, len(of.forms))-1](line.Words[i]) {
			return at(i, api.Syntax)
		}
		if e := odd(ahead, line.Words, i); e != api.OK {
			return at(i, e)
		}
	}
	return api.Fault{}
}

// wrong: a text's fault, told in another way than the program does: of each line all is looked up anew in those ahead.
func wrong(text string) api.Fault {
	l, f := lines.Read(text)
	if f.Code != api.OK {
		return f
	}
	for i, line := range l {
		if f := wrongLine(l[:i], line); f.Code != api.OK {
			return f
		}
	}
	if len(l) == 0 {
		return api.Fault{Code: api.Syntax}
	}
	return api.Fault{}
}

// ordered: a text's lines without what doesn't count, those of one kind together, with the one text of all that is no number.
func ordered(text string) string {
	l, _ := lines.Read(text)
	out := ""
	for _, word := range []string{"policy", "source", "claim", "pin", "hash", "tenant"} {
		for _, line := range l {
			if line.Words[0] == word {
				if x, ok := score.Parse(line.Words[min(2, len(line.Words)-1)]); ok && word == "source" {
					line.Words[2] = score.Text(x)
				}
				out += strings.Join(line.Words, " ") + "\n"
			}
		}
	}
	return out
}

// asked: the program says of one text what the other way does; what is parsed may be one, and is written as its lines, kind by kind; what has a text is parsed as it was (P8.2).
func asked(t *testing.T, text string) bool {
	t.Helper()
	p, f := policy.Parse(text)
	if want := wrong(text); f != want {
		t.Fatalf("%q: %v, want %v", text, f, want)
	}
	if f != fine {
		if !nothing(p) {
			t.Fatalf("%q: %v beside a fault", text, p)
		}
		return false
	}
	if e := p.Check(); e != api.OK {
		t.Fatalf("%q: Check is %d", text, e)
	}
	if got, e := p.Text(); got != ordered(text) || e != api.OK {
		t.Fatalf("%q is written as %q, %d", text, got, e)
	}
	written(t, p)
	return true
}

// written: what has a text is parsed as it was (P8.2).
func written(t *testing.T, p policy.Policy) {
	t.Helper()
	text, e := p.Text()
	if check := p.Check(); e != check || (e != api.OK) != (text == "") {
		t.Fatalf("%+v: %q, %d, want %d", p, text, e, check)
	}
	if e != api.OK {
		return
	}
	if got, f := policy.Parse(text); f != fine || !same(got, p) {
		t.Fatalf("%q: %v, %v", text, f, got)
	}
}

// P8.1: all rows of up to five lines of each kind.
func TestAllShortTexts(t *testing.T) {
	kinds := []string{"policy\n", "source m 3ff0000000000000 open\n", "source n fff0000000000000 closed\n", "claim * first m n\n", "claim m deny\n", "pin m 1.0.0\n", "hash m 0000000000000001 0000000000000000\n", "tenant m -\n", "tenant n a\n", "x\n", "claim\n", "\n"}
	texts := []string{""}
	fit := 0
	for n := range 5 {
		var longer []string
		for _, text := range texts {
			for _, kind := range kinds {
				if asked(t, text+kind) {
					fit++
					longer = append(longer, text+kind)
				} else if n < 2 {
					// What stands behind a fault changes nothing.
					longer = append(longer, text+kind)
				}
			}
		}
		texts = longer
	}
	if fit < 1000 {
		t.Error(fit, "texts of policies")
	}
}

// words that stand somewhere in a policy, and some that don't.
func words() []string {
	return append(strings.Fields(richText), "x", "q", "A", "@a", "1.0", "=1.0.0", "aa", "ca", "--", "closed", "root", "m", "@lib/core-x*", "0000000000000005", "7ff0000000000001", "abcdefghijklmnopqrstu")
}

// P8.1: each word left out, twice there, one behind it, or another one instead; each line left out, twice there, and elsewhere.
func TestMutants(t *testing.T) {
	var l [][]string
	for row := range strings.Lines(richText) {
		l = append(l, strings.Fields(row))
	}
	for i, row := range l {
		with := func(j int, instead ...string) {
			asked(t, lines.Write(slices.Replace(slices.Clone(l), i, i+1, slices.Replace(slices.Clone(row), j, j+1, instead...))...))
		}
		for j, word := range row {
			with(j)
			for _, other := range words() {
				with(j, other)
				with(j, word, other)
			}
		}
		without := slices.Delete(slices.Clone(l), i, i+1)
		asked(t, lines.Write(without...))
		for j := range l {
			asked(t, lines.Write(slices.Insert(slices.Clone(l), j, row)...))
			asked(t, lines.Write(slices.Insert(slices.Clone(without), j, row)...))
			asked(t, lines.Write(slices.Replace(slices.Clone(l), j, j+1, row)...))
		}
	}
}

// dice throw what a policy may have, and now and then what it may not.
type dice struct{ *rand.Rand }

func one[T any](d dice, l ...T) T { return l[d.IntN(len(l))] }

// some: of one to so many things that many.
func some[T any](d dice, most int, by func(i int) T) []T { return list(d.IntN(most+1), by) }

// from: some of a list, each once.
func from[T any](d dice, l []T) []T {
	l = slices.Clone(l)
	d.Shuffle(len(l), func(i, j int) { l[i], l[j] = l[j], l[i] })
	return l[:d.IntN(len(l)+1)]
}

func (d dice) policy() policy.Policy {
	var p policy.Policy
	p.Sources = some(d, 9, func(i int) policy.Source {
		return policy.Source{Name: num(one(d, "s", "main-"), i), Score: one(d, d.NormFloat64(), math.NaN(), math.Inf(1-2*d.IntN(2)), 0, -1), Open: d.IntN(2) == 0}
	})
	names := []string{"s9", "x", "*"}[:d.IntN(40)/37]
	for _, s := range p.Sources {
		names = append(names, s.Name)
	}
	p.Claims = some(d, 8, func(i int) policy.Claim {
		return policy.Claim{Glob: num(one(d, "a", "@lib/a", "b-"), d.IntN(60)) + one(d, "*", ""), Kind: d.IntN(60) / 19 % 4, Sources: from(d, names)}
	})
	p.Pins = some(d, 7, func(i int) policy.Pin {
		return policy.Pin{Name: num(one(d, "a", "@lib/a"), d.IntN(60)), Version: one(d, v("1.2.0-rc.2"), v("1.0.0"), v("0.0.1-a-b"))}
	})
	p.Hashes = some(d, 7, func(i int) policy.Hash {
		return policy.Hash{Name: num(one(d, "a", "@lib/a"), d.IntN(60)), Digests: list(1+d.IntN(80)/19%5, func(int) mark.Digest { return mark.Digest(d.IntN(60)) })}
	})
	p.Tenants = some(d, 9, func(i int) policy.Tenant {
		return policy.Tenant{Name: num("t", d.IntN(60)), Labels: one(d, 0, mark.All, mark.Labels(d.IntN(1<<26)))}
	})
	return p
}

// wrongPolicy: what Check says, told in another way than the program does: by a list of all that may be wrong, in its order.
func wrongPolicy(p policy.Policy) api.Errno {
	var l []api.Errno
	say := func(e api.Errno, wrong bool) {
		if wrong {
			l = append(l, e)
		}
	}
	met := map[string]int{}
	called := func(list, s string) {
		met[list+" "+s]++
		say(api.Twice, met[list+" "+s] > 1)
	}
	say(api.Bound, len(p.Sources) > 8)
	for _, s := range p.Sources {
		say(api.Syntax, !name.Plain(s.Name))
		called("source", s.Name)
	}
	say(api.Bound, len(p.Claims) > 16)
	for i, c := range p.Claims {
		say(api.Syntax, !name.Glob(c.Glob) || c.Kind < 0 || c.Kind > 2)
		for _, s := range c.Sources {
			say(api.Missing, met["source "+s] == 0)
			called(num("claim ", i), s)
		}
		called("claim", c.Glob)
	}
	say(api.Bound, len(p.Pins) > 16)
	for _, n := range p.Pins {
		say(api.Syntax, !name.Check(n.Name) || !n.Version.Check())
		called("pin", n.Name)
	}
	say(api.Bound, len(p.Hashes) > 16)
	for i, h := range p.Hashes {
		say(api.Syntax, !name.Check(h.Name) || len(h.Digests) == 0)
		say(api.Bound, len(h.Digests) > 4)
		for _, d := range h.Digests {
			called(num("hash ", i), d.Text())
		}
		called("hash", h.Name)
	}
	say(api.Bound, len(p.Tenants) > 8)
	for _, n := range p.Tenants {
		say(api.Syntax, !name.Plain(n.Name) || !n.Labels.Check())
		called("tenant", n.Name)
	}
	return append(l, api.OK)[0]
}

// P8.1, P8.2: random policies.
func TestRandomPolicies(t *testing.T) {
	d := dice{rand.New(rand.NewPCG(8, 1))}
	var told [10]int
	for range 30000 {
		p := d.policy()
		e := p.Check()
		if want := wrongPolicy(p); e != want {
			t.Fatalf("%+v: %d, want %d", p, e, want)
		}
		told[e]++
		written(t, p)
		if e != api.OK {
			continue
		}
		text, _ := p.Text()
		l := strings.SplitAfter(text, "\n")
		d.Shuffle(len(l)-2, func(i, j int) { l[i+1], l[j+1] = l[j+1], l[i+1] })
		asked(t, strings.Join(l, ""))
	}
	for e, least := range map[api.Errno]int{api.OK: 3000, api.Syntax: 500, api.Bound: 500, api.Twice: 500, api.Missing: 500} {
		if told[e] < least {
			t.Error(e, "is told of", told[e])
		}
	}
}

// P8.1: random rows of words.
func TestRandomTexts(t *testing.T) {
	d := dice{rand.New(rand.NewPCG(3, 2))}
	rows := []string{"source s% 3ff0000000000000 open", "source s% 0000000000000000 closed", "claim a%* allow s% s1", "claim a% deny", "pin a% 1.0.0", "hash a% 0000000000000001 000000000000000%", "tenant a% -"}
	fit := 0
	for range 20000 {
		text := "policy\nsource s1 3ff0000000000000 open\n"
		for range d.IntN(24) {
			text += strings.ReplaceAll(one(d, rows...), "%", num("", d.IntN(10)))
			for d.IntN(40) == 0 {
				text += " " + one(d, words()...)
			}
			text += "\n"
		}
		if asked(t, text) {
			fit++
		}
	}
	if fit < 1000 {
		t.Error(fit, "texts of policies")
	}
}
