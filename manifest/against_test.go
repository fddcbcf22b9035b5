package manifest_test

import (
	"math/rand/v2"
	"slices"
	"strings"
	"testing"

	"chandler/api"
	"chandler/index"
	"chandler/lines"
	"chandler/manifest"
)

// asIndex: a manifest's text, and a fault's place in it, by that of an index, whose needs are read likewise; false: the text's heads aren't such that one can be made of it.
func asIndex(text string) (string, bool) {
	l, f := lines.Read(text)
	if f.Code != api.OK || len(l) == 0 || l[0].Words[0] != "manifest" || len(l[0].Words) != 1 {
		return "", false
	}
	out := "index m\nentry a 1.0.0 0000000000000000 -\n"
	for _, line := range l[1:] {
		if line.Words[0] != "root" {
			return "", false
		}
		out += "need" + strings.TrimPrefix(strings.Join(line.Words, " "), "root") + "\n"
	}
	return out, true
}

// asked: the program says of roots what layer 7 says of needs; what has a text is parsed as it was (P9.2). The text has no blanks and lines but those that are needed.
func asked(t *testing.T, text string) bool {
	t.Helper()
	m, f := manifest.Parse(text)
	if other, ok := asIndex(text); ok {
		x, want := index.Parse(other)
		if want.Line > 0 {
			want.Line--
		}
		if f != want || f == fine && !same(m, of(x.Entries[0].Needs...)) {
			t.Fatalf("%q: %v, %v; want %v", text, m, f, want)
		}
	} else if f == fine {
		t.Fatalf("%q: %v", text, m)
	}
	if f != fine {
		if m.Roots != nil {
			t.Fatalf("%q: %v beside a fault", text, m)
		}
		return false
	}
	if got, e := m.Text(); got != text || e != api.OK || m.Check() != api.OK {
		t.Fatalf("%q is written as %q, %d", text, got, e)
	}
	return true
}

// P9.1: each word left out, twice there, one behind it, or another one instead; each line left out, and elsewhere.
func TestMutants(t *testing.T) {
	var l [][]string
	for row := range strings.Lines(richText) {
		l = append(l, strings.Fields(row))
	}
	words := append(strings.Fields(richText), "x", "A", "@a", "1.0.0", "-", "need", "f-", "^1.0", "z")
	for i, row := range l {
		with := func(j int, instead ...string) {
			asked(t, lines.Write(slices.Replace(slices.Clone(l), i, i+1, slices.Replace(slices.Clone(row), j, j+1, instead...))...))
		}
		for j, word := range row {
			with(j)
			for _, other := range words {
				with(j, other)
				with(j, word, other)
			}
		}
		without := slices.Delete(slices.Clone(l), i, i+1)
		asked(t, lines.Write(without...))
		for j := range l {
			asked(t, lines.Write(slices.Insert(slices.Clone(l), j, row)...))
			asked(t, lines.Write(slices.Insert(slices.Clone(without), j, row)...))
		}
	}
}

// P9.1, P9.2: random rows of words.
func TestRandomTexts(t *testing.T) {
	d := rand.New(rand.NewPCG(9, 1))
	rows := []string{"root a *", "root b ^1.0.0 f", "root @lib/c >=1.0.0,<2.0.0 f g h i", "root a !=1.0.0|~0.2.1 d", "root c =1.2.0-rc.2 f g"}
	words := strings.Fields("f g h A * root manifest =1.0.0 x -")
	fit := 0
	for range 20000 {
		text := "manifest"
		for range d.IntN(10) {
			text += "\n" + rows[d.IntN(len(rows))]
			for d.IntN(12) == 0 {
				text += " " + words[d.IntN(len(words))]
			}
		}
		if asked(t, text+"\n") {
			fit++
		}
	}
	if fit < 1000 {
		t.Error(fit, "texts of manifests")
	}
}
