package lines_test

import (
	"reflect"
	"strings"
	"testing"

	"chandler/api"
	"chandler/lines"
)

// fine is the answer where there is no fault.
var fine = api.Fault{}

func bound(line, col int) api.Fault  { return api.Fault{Code: api.Bound, Line: line, Col: col} }
func syntax(line, col int) api.Fault { return api.Fault{Code: api.Syntax, Line: line, Col: col} }

// same: are two lists of lines alike? Nil and empty lists are one.
func same(a, b []lines.Line) bool {
	return len(a) == len(b) && (len(a) == 0 || reflect.DeepEqual(a, b))
}

// bothRead asks Read and ReadAny, for texts that are within all limits of both.
func bothRead(t *testing.T, text string, want []lines.Line, fault api.Fault) {
	t.Helper()
	for what, read := range map[string]func(string) ([]lines.Line, api.Fault){"Read": lines.Read, "ReadAny": lines.ReadAny} {
		got, f := read(text)
		if !same(got, want) || f != fault {
			t.Errorf("%s(%q) = %v, %v; want %v, %v", what, text, got, f, want, fault)
		}
	}
}

func one(no int, words []string, cols ...int) lines.Line {
	return lines.Line{No: no, Words: words, Cols: cols}
}

// P1.1: words, their lines, and where they begin.
func TestReadWords(t *testing.T) {
	ab := []string{"a", "b"}
	for _, c := range []struct {
		text string
		want []lines.Line
	}{
		{"", nil},
		{"\n", nil},
		{"\n\n", nil},
		{" \t", nil},
		{"#", nil},
		{"# a b", nil},
		{"a b # c", []lines.Line{one(1, ab, 1, 3)}},
		{"a b\n", []lines.Line{one(1, ab, 1, 3)}},
		{"a b\n\n", []lines.Line{one(1, ab, 1, 3)}},
		{"\ta  \t b \t", []lines.Line{one(1, ab, 2, 7)}},
		{"a#b c", []lines.Line{one(1, []string{"a"}, 1)}},
		{"a b#", []lines.Line{one(1, ab, 1, 3)}},
		{"a # b\nb # a # b", []lines.Line{one(1, []string{"a"}, 1), one(2, []string{"b"}, 1)}},
		{"\n \n#\n  xyz\n\nw", []lines.Line{one(4, []string{"xyz"}, 3), one(6, []string{"w"}, 1)}},
		{"!~ -\"$", []lines.Line{one(1, []string{"!~", "-\"$"}, 1, 4)}},
		{"a # \x00\r\x7f\xff\nb", []lines.Line{one(1, []string{"a"}, 1), one(2, []string{"b"}, 1)}},
		{"a a a", []lines.Line{one(1, []string{"a", "a", "a"}, 1, 3, 5)}},
	} {
		bothRead(t, c.text, c.want, fine)
	}
}

// P1.1: what each byte is, behind another one.
func TestReadEachByte(t *testing.T) {
	for i := range 256 {
		b := byte(i)
		text := "a" + string([]byte{b}) + "c"
		var want []lines.Line
		fault := fine
		switch {
		case b == '\n':
			want = []lines.Line{one(1, []string{"a"}, 1), one(2, []string{"c"}, 1)}
		case b == ' ' || b == '\t':
			want = []lines.Line{one(1, []string{"a", "c"}, 1, 3)}
		case b == '#':
			want = []lines.Line{one(1, []string{"a"}, 1)}
		case b >= 33 && b <= 126:
			want = []lines.Line{one(1, []string{text}, 1)}
		default:
			fault = syntax(1, 2)
		}
		bothRead(t, text, want, fault)
	}
}

// P1.1: a byte that may not be is told where it stands, and nothing else is answered (rule 2).
func TestReadSyntax(t *testing.T) {
	for text, fault := range map[string]api.Fault{
		"\x00":               syntax(1, 1),
		"a\r\n":              syntax(1, 2),
		"a\n \x7f":           syntax(2, 2),
		"a b c\xc3\xa4":      syntax(1, 6),
		"a\n\n#\xff\n\tb \v": syntax(4, 4),
		"a\x01\x02 \x03":     syntax(1, 2),
		"\xc2\xa0":           syntax(1, 1),
		"ab\x1f#":            syntax(1, 3),
	} {
		bothRead(t, text, nil, fault)
	}
}

// P1.1: so many bytes, and not one more; that is told ahead of all else.
func TestReadMaxText(t *testing.T) {
	full := strings.Repeat("a\n", 3) + "#" + strings.Repeat("x", api.MaxText-7)
	if l, f := lines.Read(full); len(full) != api.MaxText || len(l) != 3 || f != fine {
		t.Error(len(full), l, f)
	}
	for _, text := range []string{full + "x", full + "\n", "\x00" + full, strings.Repeat(" ", api.MaxText+1), strings.Repeat("\n", api.MaxText+1)} {
		if l, f := lines.Read(text); len(l) != 0 || f != bound(0, 0) {
			t.Errorf("%d bytes: %v, %v", len(text), l, f)
		}
	}
	if l, f := lines.ReadAny(full + "x"); len(l) != 3 || f != fine {
		t.Error(l, f)
	}
}

// P1.1: so many lines, and not one more, with words or without; faults of lines ahead are told first.
func TestReadMaxLines(t *testing.T) {
	empty := strings.Repeat("\n", api.MaxLines-1)
	last := []lines.Line{one(api.MaxLines, []string{"a"}, 1)}
	for _, text := range []string{empty + "a", empty + "a\n"} {
		bothRead(t, text, last, fine)
	}
	if l, f := lines.Read(empty + "\n"); len(l) != 0 || f != fine {
		t.Error(l, f)
	}
	for _, behind := range []string{"a", "\n", " ", "#", "\x00", strings.Repeat("x", api.MaxWord+1), "\n\n\nb"} {
		if l, f := lines.Read(empty + "\n" + behind); len(l) != 0 || f != bound(api.MaxLines+1, 0) {
			t.Errorf("behind %q: %v, %v", behind, l, f)
		}
	}
	if l, f := lines.Read(empty + " \x00\na"); len(l) != 0 || f != syntax(api.MaxLines, 2) {
		t.Error(l, f)
	}
}

// P1.1: so many words, of so many bytes, and not one more; word by word.
func TestReadMaxWords(t *testing.T) {
	most := strings.Repeat("a ", api.MaxWords-1)
	l, f := lines.Read(most + "b")
	if len(l) != 1 || len(l[0].Words) != api.MaxWords || l[0].Cols[api.MaxWords-1] != len(most)+1 || f != fine {
		t.Error(l, f)
	}
	bothRead(t, most+"b # c d e", l, fine)
	long := strings.Repeat("x", api.MaxWord)
	bothRead(t, " "+long+" y", []lines.Line{one(1, []string{long, "y"}, 2, 3+api.MaxWord)}, fine)
	for text, fault := range map[string]api.Fault{
		most + "a b":                         bound(1, len(most)+3),
		most + "a b\x00":                     bound(1, len(most)+3),
		"\n" + most + "a \t " + long + "x c": bound(2, len(most)+5),
		" " + long + "x":                     bound(1, 2),
		"a\nb " + long + "x":                 bound(2, 3),
		long + "\x00":                        bound(1, 1),
		"\x00" + long:                        bound(1, 1),
		long[1:] + "\x00":                    syntax(1, api.MaxWord),
		"\x00 " + long + "x":                 syntax(1, 1),
		"a\x00 " + most + "a":                syntax(1, 2),
		most + "\x00 b":                      syntax(1, len(most)+1),
		long + "x \x00":                      bound(1, 1),
		"\x00\n" + long + "x":                syntax(1, 1),
		long + "x\n\x00":                     bound(1, 1),
	} {
		bothRead(t, text, nil, fault)
	}
}

// P1.1: any bytes and lines, but no more words than of others, and no other bytes in them.
func TestReadAny(t *testing.T) {
	many := strings.Repeat("a bc\n", 3*api.MaxText)
	l, f := lines.ReadAny(many)
	if len(l) != 3*api.MaxText || f != fine {
		t.Fatal(len(l), f)
	}
	for i, x := range l {
		if !reflect.DeepEqual(x, one(i+1, []string{"a", "bc"}, 1, 3)) {
			t.Fatal(i, x)
		}
	}
	for behind, fault := range map[string]api.Fault{
		"c \x00":                             syntax(3*api.MaxText+1, 3),
		strings.Repeat("x", api.MaxWord+1):   bound(3*api.MaxText+1, 1),
		strings.Repeat("x ", api.MaxWords+1): bound(3*api.MaxText+1, 2*api.MaxWords+1),
	} {
		if l, f := lines.ReadAny(many + behind); len(l) != 0 || f != fault {
			t.Errorf("behind %q: %v, %v", behind, len(l), f)
		}
	}
}

// plain reads a text letter by letter, in another way than the program; it knows no limits.
func plain(text string) ([]lines.Line, api.Fault) {
	var out []lines.Line
	for i, row := range strings.Split(text, "\n") {
		if at := strings.IndexByte(row, '#'); at >= 0 {
			row = row[:at]
		}
		var words []string
		var cols []int
		for j := range len(row) {
			if row[j] == ' ' || row[j] == '\t' {
				continue
			}
			if row[j] < 33 || row[j] > 126 {
				return nil, syntax(i+1, j+1)
			}
			if j == 0 || row[j-1] == ' ' || row[j-1] == '\t' {
				words, cols = append(words, ""), append(cols, j+1)
			}
			words[len(words)-1] += row[j : j+1]
		}
		if len(words) > 0 {
			out = append(out, lines.Line{No: i + 1, Words: words, Cols: cols})
		}
	}
	return out, fine
}

// P1.1, and rules 5 and 6: all short texts of some letters.
func TestReadAllShortTexts(t *testing.T) {
	const letters = "ab \t\n#\x80"
	texts := []string{""}
	for range 5 {
		var longer []string
		for _, x := range texts {
			for i := range len(letters) {
				longer = append(longer, x+letters[i:i+1])
			}
		}
		for _, x := range longer {
			want, fault := plain(x)
			bothRead(t, x, want, fault)
		}
		texts = longer
	}
}

// P1.1: what is written.
func TestWrite(t *testing.T) {
	for _, c := range []struct {
		l    [][]string
		want string
	}{
		{nil, ""},
		{[][]string{nil}, "\n"},
		{[][]string{{}, {}}, "\n\n"},
		{[][]string{{"a"}}, "a\n"},
		{[][]string{{"a", "b"}, {"c"}}, "a b\nc\n"},
		{[][]string{{"a"}, nil, {"b", "c", "d"}}, "a\n\nb c d\n"},
		{[][]string{{"", "#", "\n", " \x00"}}, " # \n  \x00\n"},
	} {
		if got := lines.Write(c.l...); got != c.want {
			t.Errorf("Write(%q) = %q, want %q", c.l, got, c.want)
		}
	}
}

// everyByte: words of all the bytes that a word may have.
func everyByte() []string {
	var out []string
	for b := byte(33); b <= 126; b++ {
		if b != '#' {
			out = append(out, string([]byte{b}), "x"+string([]byte{b, b}))
		}
	}
	return out
}

// P1.2: what is written is read as it was, up to each limit.
func TestWrittenIsRead(t *testing.T) {
	long := strings.Repeat("z", api.MaxWord)
	row := make([]string, api.MaxWords)
	for i := range row {
		row[i] = long
	}
	full := make([][]string, api.MaxLines)
	for i := range full {
		full[i] = []string{strings.Repeat("y", api.MaxText/api.MaxLines-1)}
	}
	var bytes [][]string
	for _, w := range everyByte() {
		bytes = append(bytes, []string{w, "a", w})
	}
	for _, l := range [][][]string{
		nil, {{"a"}}, {{"a", "b"}, {"c"}}, {{"a"}, nil, {"b", "a", "a"}}, {row, row, {long}}, full, bytes,
	} {
		written := lines.Write(l...)
		got, f := lines.Read(written)
		if f != fine {
			t.Errorf("%.60q: %v", written, f)
		}
		for i, words := range l {
			if len(words) == 0 {
				continue
			}
			if len(got) == 0 || got[0].No != i+1 || !reflect.DeepEqual(got[0].Words, words) {
				t.Fatalf("%.60q: line %d isn't read as it was: %v", written, i+1, got)
			}
			got = got[1:]
		}
		if len(got) != 0 {
			t.Errorf("%.60q: %v is left", written, got)
		}
	}
	if n := len(lines.Write(full...)); n != api.MaxText {
		t.Error("the longest text has", n, "bytes")
	}
}

// P1.3: lists that are answered share nothing with one another, nor with a later answer.
func TestReadNewMemory(t *testing.T) {
	const text = "a b c\nd e\nf"
	first, _ := lines.Read(text)
	for i := range first {
		for range 40 {
			_ = append(first[i].Words, "x", "y", "z")
			_ = append(first[i].Cols, 7, 8, 9)
			first[i].Words = append(first[i].Words, "w")
			first[i].Cols = append(first[i].Cols, 6)
		}
	}
	want, _ := plain(text)
	for i := range first {
		n := len(want[i].Words)
		if !reflect.DeepEqual(first[i].Words[:n], want[i].Words) || !reflect.DeepEqual(first[i].Cols[:n], want[i].Cols) {
			t.Errorf("line %d was changed through another one: %v", i+1, first[i])
		}
		first[i].Words[0] = "changed"
	}
	bothRead(t, text, want, fine)
}

// P1.3, rule 4: lists that are handed in aren't changed, their spare room neither.
func TestWriteChangesNothing(t *testing.T) {
	words := []string{"a", "b", "spare", "room"}
	l := [][]string{words[:2], words[:0], words[:1], {"spare"}}
	if got := lines.Write(l[:3]...); got != "a b\n\na\n" {
		t.Errorf("%q", got)
	}
	if !reflect.DeepEqual(words, []string{"a", "b", "spare", "room"}) || len(l[1]) != 0 || len(l[0]) != 2 || l[3][0] != "spare" {
		t.Error(words, l)
	}
}
