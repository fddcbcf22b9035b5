package mark_test

import (
	"regexp"
	"slices"
	"strings"
	"testing"

	"chandler/mark"
)

const alphabet = "abcdefghijklmnopqrstuvwxyz"

// labelsText: what labels' text is like, told in another way than the program does (but that it isn't empty).
var labelsText = regexp.MustCompile(`\A(?:-|` + strings.Join(strings.Split(alphabet, ""), "?") + `?)\z`)

// digestText: what a digest's text is like.
var digestText = regexp.MustCompile(`\A[0-9a-f]{16}\z`)

// sets: each label alone, all but it, those up to it, beginnings of no labels and all, and some more.
func sets() []mark.Labels {
	l := []mark.Labels{0, mark.All}
	for i := range 26 {
		one := mark.Labels(1) << i
		l = append(l, one, mark.All^one, one-1, one|1, one|1<<25)
	}
	for x := mark.Labels(1); x < mark.All; x = x*5 + 3 {
		l = append(l, x)
	}
	return l
}

// odd: sets with bits that are no label's.
func odd() []mark.Labels {
	var l []mark.Labels
	for i := 26; i < 32; i++ {
		for _, low := range []mark.Labels{0, 5, 1 << 25, mark.All} {
			l = append(l, 1<<i|low)
		}
	}
	return append(l, 1<<32-1, 1<<32-1-mark.All)
}

// letters: labels' text, made letter by letter.
func letters(l mark.Labels) string {
	text := ""
	for i, c := range alphabet {
		if l>>i%2 == 1 {
			text += string(c)
		}
	}
	if text == "" {
		return "-"
	}
	return text
}

func TestAll(t *testing.T) {
	if mark.All != 67108863 || mark.All.Text() != alphabet || mark.All.Count() != 26 || !mark.All.Check() {
		t.Error(mark.All, mark.All.Text(), mark.All.Count())
	}
}

// P6.1, P6.2: texts, and what they are of.
func TestTexts(t *testing.T) {
	for text, want := range map[string]mark.Labels{"-": 0, "a": 1, "b": 2, "ab": 3, "c": 4, "ac": 5, "bc": 6, "abc": 7, "z": 1 << 25, "az": 1<<25 + 1, "yz": 3 << 24, alphabet: mark.All, alphabet[1:]: mark.All - 1, alphabet[:25]: 1<<25 - 1} {
		if got, ok := mark.Parse(text); got != want || !ok {
			t.Errorf("Parse(%q) = %d, %v; want %d", text, got, ok, want)
		}
		if got := want.Text(); got != text {
			t.Errorf("%d has the text %q; want %q", want, got, text)
		}
	}
	for _, l := range sets() {
		text := l.Text()
		if text != letters(l) {
			t.Errorf("%b has the text %q", l, text)
		}
		if got, ok := mark.Parse(text); got != l || !ok {
			t.Errorf("Parse(%q) = %b, %v", text, got, ok)
		}
	}
}

// P6.1: what is no text of labels.
func TestParseRefuses(t *testing.T) {
	for _, s := range []string{
		"", "ca", "ba", "aa", "zz", "zy", "za", "aba", "abb", "acb", "bac", "abcdefgza", alphabet + "z", alphabet + "a", alphabet + alphabet, "--", "-a", "a-", "a-b", "A", "aB", "Z", "a b", " a", "a ", " ", " -", "- ", "a,b", "0", "5", "a0", "0a", "`", "{", "a{", "@", "[", "a\n", "\n", "-\n", "\x00", "a\x00", "\xff", "a\xff", "ä", "all", "*", "+", strings.Repeat("a", 1<<20), strings.Repeat("-", 1<<20),
	} {
		if l, ok := mark.Parse(s); ok || l != 0 {
			t.Errorf("Parse(%q) = %d, %v", s, l, ok)
		}
	}
}

// labelsAsked: the program says of one text what its form says.
func labelsAsked(t *testing.T, s string) {
	t.Helper()
	l, ok := mark.Parse(s)
	if ok != (s != "" && labelsText.MatchString(s)) || !ok && l != 0 || ok && (letters(l) != s || l.Text() != s || !l.Check()) {
		t.Fatalf("Parse(%q) = %d, %v", s, l, ok)
	}
}

// P6.1, P6.2: all short texts of some letters; each byte in each place of a text, instead of what stands there, and between.
func TestParseAll(t *testing.T) {
	last := []string{""}
	for range 5 {
		var longer []string
		for _, s := range last {
			for _, c := range []string{"a", "b", "c", "y", "z", "-", "A", "{"} {
				labelsAsked(t, s+c)
				longer = append(longer, s+c)
			}
		}
		last = longer
	}
	for _, good := range []string{"-", "a", "bdy", "az", alphabet} {
		for i := range len(good) + 1 {
			for b := range 256 {
				labelsAsked(t, good[:i]+string([]byte{byte(b)})+good[i:])
				if i < len(good) {
					labelsAsked(t, good[:i]+string([]byte{byte(b)})+good[i+1:])
				}
			}
		}
	}
}

// P6.1: how many labels; whether they are labels alone.
func TestCount(t *testing.T) {
	for _, l := range sets() {
		if want := len(strings.Trim(letters(l), "-")); l.Count() != want || !l.Check() {
			t.Errorf("%b: %d, %v; want %d", l, l.Count(), l.Check(), want)
		}
	}
}

// P6.1: bits that are no label's have no text, and don't count, and what has one may not be.
func TestOddBits(t *testing.T) {
	for _, l := range odd() {
		labels := l % (1 << 26)
		if l.Check() || l.Count() != labels.Count() || l.Text() != labels.Text() {
			t.Errorf("%b: %v, %d, %q", l, l.Check(), l.Count(), l.Text())
		}
		if l.Under(mark.All) || !labels.Under(l) || l.Under(labels) || !l.Under(l) || !l.Under(1<<32-1) {
			t.Errorf("%b: Under", l)
		}
		if mark.Join(l) != l || mark.Join(labels, l) != l || mark.Join(l, labels, 0) != l {
			t.Errorf("%b: Join is %b", l, mark.Join(l))
		}
		if mark.Meet(l) != labels || mark.Meet(l, l) != labels || mark.Meet(labels, l) != labels || mark.Meet(l, 1<<32-1) != labels {
			t.Errorf("%b: Meet is %b", l, mark.Meet(l))
		}
	}
	if high := mark.Labels(1 << 26); high.Text() != "-" || high.Count() != 0 || mark.Labels(1<<32-1).Count() != 26 || mark.Labels(1<<31|5).Text() != "ac" {
		t.Error("bits that are no label's count")
	}
}

func TestUnder(t *testing.T) {
	for _, c := range []struct {
		l, top mark.Labels
		under  bool
	}{
		{5, 7, true}, {7, 5, false}, {5, 5, true}, {0, 0, true}, {0, 5, true}, {5, 0, false}, {5, 2, false}, {2, 5, false}, {5, 10, false}, {mark.All, mark.All, true}, {mark.All, mark.All - 1, false}, {mark.All - 1, mark.All, true}, {1 << 25, 1<<25 - 1, false},
		{1 << 26, mark.All, false}, {1 << 31, 1<<31 - 1, false}, {1 << 31, 1<<32 - 1, true}, {1 << 26, 1 << 26, true}, {1<<26 | 1, 1 << 26, false},
	} {
		if c.l.Under(c.top) != c.under {
			t.Errorf("Labels(%d).Under(%d) = %v", c.l, c.top, !c.under)
		}
	}
}

func TestJoinMeet(t *testing.T) {
	for _, c := range []struct {
		l          []mark.Labels
		join, meet mark.Labels
	}{
		{nil, 0, mark.All}, {[]mark.Labels{}, 0, mark.All}, {[]mark.Labels{0}, 0, 0}, {[]mark.Labels{5}, 5, 5}, {[]mark.Labels{5, 6}, 7, 4}, {[]mark.Labels{5, 2}, 7, 0}, {[]mark.Labels{7, 5, 4}, 7, 4}, {[]mark.Labels{1, 2, 4, 8}, 15, 0}, {[]mark.Labels{5, 0}, 5, 0}, {[]mark.Labels{mark.All, 5}, mark.All, 5}, {[]mark.Labels{5, 5, 5}, 5, 5},
	} {
		handed := slices.Clone(c.l)
		if join, meet := mark.Join(handed...), mark.Meet(handed...); join != c.join || meet != c.meet {
			t.Errorf("%v: Join %d, Meet %d", c.l, join, meet)
		}
		if !slices.Equal(handed, c.l) {
			t.Errorf("%v was changed", c.l)
		}
	}
	if mark.Join() != 0 || mark.Meet() != mark.All || mark.Join(slices.Repeat([]mark.Labels{1, 8}, 1<<18)...) != 9 || mark.Meet(slices.Repeat([]mark.Labels{12, 9}, 1<<18)...) != 8 {
		t.Error("of none, or of many")
	}
}

// few: all sets of a few labels, the lowest and the highest among them.
func few() []mark.Labels {
	l := []mark.Labels{0}
	for _, one := range []mark.Labels{1, 2, 1 << 12, 1 << 25} {
		for _, x := range slices.Clone(l) {
			l = append(l, x|one)
		}
	}
	return append(l, mark.All)
}

// P6.3: Under is an order: all are under themselves, none is both above and under another one, and what is under what is under is under.
func TestUnderIsOrder(t *testing.T) {
	for _, a := range few() {
		for _, b := range few() {
			if a.Under(b) && b.Under(a) != (a == b) || a == b && !a.Under(b) {
				t.Errorf("%b, %b", a, b)
			}
			for _, c := range few() {
				if a.Under(b) && b.Under(c) && !a.Under(c) {
					t.Errorf("%b, %b, %b", a, b, c)
				}
			}
		}
	}
}

// P6.3: above Join is what is above all of l, and under Meet what is under all of l.
func TestJoinIsLeastMeetGreatest(t *testing.T) {
	for _, a := range few() {
		for _, b := range few() {
			for _, c := range few() {
				join, meet := mark.Join(a, b, c), mark.Meet(a, b, c)
				if !a.Under(join) || !b.Under(join) || !c.Under(join) || !meet.Under(a) || !meet.Under(b) || !meet.Under(c) {
					t.Fatalf("%b, %b, %b: Join %b, Meet %b", a, b, c, join, meet)
				}
				for _, x := range few() {
					if a.Under(x) && b.Under(x) && c.Under(x) && !join.Under(x) || x.Under(a) && x.Under(b) && x.Under(c) && !x.Under(meet) {
						t.Fatalf("%b, %b, %b and %b: Join %b, Meet %b", a, b, c, x, join, meet)
					}
				}
			}
		}
	}
}

// P6.1, P6.2: digests' texts.
func TestDigestTexts(t *testing.T) {
	for text, want := range map[string]mark.Digest{
		"0000000000000000": 0, "0000000000000001": 1, "000000000000000f": 15, "0000000000000010": 16, "1000000000000000": 1 << 60, "f000000000000000": 15 << 60, "8000000000000000": 1 << 63, "7fffffffffffffff": 1<<63 - 1, "ffffffffffffffff": 1<<64 - 1, "0123456789abcdef": 0x0123456789abcdef, "fedcba9876543210": 0xfedcba9876543210, "00000000ffffffff": 1<<32 - 1,
	} {
		if got, ok := mark.ParseDigest(text); got != want || !ok {
			t.Errorf("ParseDigest(%q) = %d, %v; want %d", text, got, ok, want)
		}
		if got := want.Text(); got != text {
			t.Errorf("%d has the text %q; want %q", want, got, text)
		}
	}
	for i := range 64 {
		for _, d := range []mark.Digest{1 << i, 1<<i - 1, ^(1 << i), 0x9e3779b97f4a7c15 >> i, 0x9e3779b97f4a7c15 << i} {
			digestAsked(t, d.Text())
			if got, ok := mark.ParseDigest(d.Text()); got != d || !ok {
				t.Errorf("ParseDigest(%q) = %x, %v", d.Text(), got, ok)
			}
		}
	}
}

// P6.1: what is no digest's text.
func TestParseDigestRefuses(t *testing.T) {
	for _, s := range []string{
		"", "0", "-", "1", "f", "00000000000000000", "000000000000000", "0123456789abcde", "0123456789abcdeff", "0123456789ABCDEF", "0123456789abcdeF", "A000000000000000", "0123456789abcdeg", "g123456789abcdef", "0x00000000000000", "0x0123456789abcdef", "0X00000000000000", "+000000000000000", "-000000000000000", "-0000000000000001", "+0000000000000001", "0000_0000_0000_00", "0000000_00000000", " 000000000000000", "000000000000000 ", "0000000000000000 ", " 0000000000000000", "0000000000000000\n", "000000000000000\n", "000000000000000\x00", "00000000000000\xff\xff", "00000000000000ä", "00000000000000.0", "0000000000000:00", "0000000000000/00", "0000000000000`00", "18446744073709551616", strings.Repeat("0", 32), strings.Repeat("f", 17), strings.Repeat("0", 1<<20),
	} {
		if d, ok := mark.ParseDigest(s); ok || d != 0 {
			t.Errorf("ParseDigest(%q) = %d, %v", s, d, ok)
		}
	}
	for n := range 40 {
		digestAsked(t, strings.Repeat("a", n))
		digestAsked(t, strings.Repeat("0", n))
	}
}

// digestAsked: the program says of one text what its form says.
func digestAsked(t *testing.T, s string) {
	t.Helper()
	d, ok := mark.ParseDigest(s)
	if ok != digestText.MatchString(s) || !ok && d != 0 || ok && d.Text() != s {
		t.Fatalf("ParseDigest(%q) = %x, %v", s, d, ok)
	}
}

// P6.1, P6.2: each byte in each place of a digest's text, instead of what stands there, and between.
func TestParseDigestEachByte(t *testing.T) {
	const good = "0f1e2d3c4b5a6978"
	digestAsked(t, good)
	for i := range len(good) + 1 {
		for b := range 256 {
			digestAsked(t, good[:i]+string([]byte{byte(b)})+good[i:])
			if i < len(good) {
				digestAsked(t, good[:i]+string([]byte{byte(b)})+good[i+1:])
			}
		}
	}
}
