package score_test

import (
	"math"
	"reflect"
	"strings"
	"testing"

	"chandler/score"
)

var (
	minus   = math.Copysign(0, -1)
	inf     = math.Inf(1)
	none    = math.NaN()
	least   = math.SmallestNonzeroFloat64
	normal  = math.Float64frombits(1 << 52) // the least that isn't made smaller than its form
	below1  = math.Nextafter(1, 0)
	third   = 1.0 / 3
	noneLow = math.Float64frombits(0xfff8000000000001)
	noneBig = math.Float64frombits(0x7fffffffffffffff)
	noneOdd = math.Float64frombits(0x7ff8000000000002)
)

// row: numbers as they stand, a place a list; what is in one list is at one place.
func row() [][]float64 {
	return [][]float64{
		{none, noneLow, noneBig, noneOdd}, {-inf}, {-math.MaxFloat64}, {-2}, {-1}, {-below1}, {-third}, {-normal}, {-least}, {minus},
		{0}, {least}, {2 * least}, {normal}, {third}, {below1}, {1}, {2}, {math.MaxFloat64}, {inf},
	}
}

// placed is a number, and at which place of the row it stands.
type placed struct {
	x     float64
	place int
}

func all() []placed {
	var out []placed
	for i, l := range row() {
		for _, x := range l {
			out = append(out, placed{x, i})
		}
	}
	return out
}

// alike: are two numbers the same, bit by bit, or both none?
func alike(a, b float64) bool {
	return math.Float64bits(a) == math.Float64bits(b) || math.IsNaN(a) && math.IsNaN(b)
}

func sign(n int) int {
	switch {
	case n < 0:
		return -1
	case n > 0:
		return 1
	}
	return 0
}

// P2.1, P2.2: all pairs of numbers, as they stand in the row.
func TestCompare(t *testing.T) {
	for _, a := range all() {
		for _, b := range all() {
			if got := score.Compare(a.x, b.x); got != sign(a.place-b.place) {
				t.Errorf("Compare(%v, %v) = %d", a.x, b.x, got)
			}
		}
	}
}

// P2.2: an order: of any bits, each pair one way or the other, and from place to place.
func TestCompareIsAnOrder(t *testing.T) {
	numbers := []float64{}
	bits := uint64(0x9e3779b97f4a7c15)
	for range 40 {
		bits = bits*6364136223846793005 + 1442695040888963407
		numbers = append(numbers, math.Float64frombits(bits))
	}
	for _, p := range all() {
		numbers = append(numbers, p.x)
	}
	for _, a := range numbers {
		if score.Compare(a, a) != 0 {
			t.Error(a, "isn't at one place with itself")
		}
		for _, b := range numbers {
			ab := score.Compare(a, b)
			if ab != -score.Compare(b, a) || ab*ab > 1 {
				t.Error(a, b, ab)
			}
			if (ab == 0) != (score.Text(a) == score.Text(b)) {
				t.Error(a, b, "at one place, but not the same, or the other way round")
			}
			for _, c := range numbers {
				if ab <= 0 && score.Compare(b, c) <= 0 && score.Compare(a, c) > 0 {
					t.Error(a, b, c)
				}
			}
		}
	}
}

// P2.1: what a number is.
func TestKind(t *testing.T) {
	for kind, l := range map[int][]float64{
		score.NaN:     {none, noneLow, noneBig, noneOdd, inf - inf, math.Float64frombits(0x7ff0000000000001), math.Float64frombits(0xffffffffffffffff)},
		score.NegInf:  {-inf},
		score.Below:   {-math.MaxFloat64, -1, -third, -normal, -least},
		score.NegZero: {minus},
		score.Zero:    {0},
		score.Above:   {least, normal, third, 1, math.MaxFloat64},
		score.Inf:     {inf},
	} {
		for _, x := range l {
			if got := score.Kind(x); got != kind {
				t.Errorf("Kind(%v) = %d, want %d", x, got, kind)
			}
		}
	}
	if kinds := [7]int{score.NaN, score.NegInf, score.Below, score.NegZero, score.Zero, score.Above, score.Inf}; kinds != [7]int{0, 1, 2, 3, 4, 5, 6} {
		t.Error(kinds)
	}
}

// P2.1: numbers and their texts.
func TestTexts(t *testing.T) {
	for text, x := range map[string]float64{
		"0000000000000000": 0,
		"8000000000000000": minus,
		"3ff0000000000000": 1,
		"bff0000000000000": -1,
		"3fd5555555555555": third,
		"3fefffffffffffff": below1,
		"0000000000000001": least,
		"8000000000000001": -least,
		"0010000000000000": normal,
		"7fefffffffffffff": math.MaxFloat64,
		"7ff0000000000000": inf,
		"fff0000000000000": -inf,
		"7ff8000000000001": none,
	} {
		if got := score.Text(x); got != text {
			t.Errorf("Text(%v) = %s, want %s", x, got, text)
		}
		if got, ok := score.Parse(text); !ok || math.Float64bits(got) != math.Float64bits(x) {
			t.Errorf("Parse(%s) = %v, %v", text, got, ok)
		}
	}
	for _, x := range []float64{none, noneLow, noneBig, noneOdd, inf - inf} {
		if got := score.Text(x); got != "7ff8000000000001" {
			t.Errorf("Text(%x) = %s", math.Float64bits(x), got)
		}
	}
}

// P2.1: what is no text of a number.
func TestParseRefuses(t *testing.T) {
	const good = "3ff000000000abcd"
	if _, ok := score.Parse(good); !ok {
		t.Fatal(good)
	}
	bad := []string{
		"", "0", good[1:], good + "0", "0" + good, good + good, "0x3ff00000000000", "0x" + good, "1", "NaN", "Inf", "-0", strings.Repeat(" ", 16), strings.Repeat("\x00", 16), "+ff0000000000000", "-ff0000000000000",
		"3ff0_00000000000", " " + good[1:], good[:15] + " ", good[:15] + "\n", good + "\n", "3FF0000000000000", "3ff000000000ABCD", strings.Repeat("ä", 8), strings.Repeat("ä", 16), strings.Repeat("٣", 8), "3ff000000000000.", "1.00000000000000",
	}
	for i := range 16 {
		for b := range 256 {
			if !strings.Contains("0123456789abcdef", string([]byte{byte(b)})) {
				bad = append(bad, good[:i]+string([]byte{byte(b)})+good[i+1:])
			}
		}
	}
	for _, s := range bad {
		if x, ok := score.Parse(s); ok || math.Float64bits(x) != 0 {
			t.Errorf("Parse(%q) = %v, %v", s, x, ok)
		}
	}
}

// P2.3: each text that isn't none's is its number's, bit by bit; none's are read too.
func TestTextIsTheNumbersOwn(t *testing.T) {
	bits := []uint64{0, math.MaxUint64}
	for i := range 64 {
		bits = append(bits, 1<<i, ^uint64(1<<i), 1<<i-1, 0x3ff0000000000000^1<<i, 0xfff0000000000000^1<<i)
	}
	for _, p := range all() {
		bits = append(bits, math.Float64bits(p.x))
	}
	seed := uint64(1)
	for range 2000 {
		seed = seed*6364136223846793005 + 1442695040888963407
		bits = append(bits, seed)
	}
	for _, b := range bits {
		x := math.Float64frombits(b)
		text := score.Text(x)
		got, ok := score.Parse(text)
		if len(text) != 16 || !ok || !alike(got, x) {
			t.Errorf("%x: %s, %v, %v", b, text, got, ok)
		}
		own := hex(b)
		if got, ok := score.Parse(own); !ok || math.Float64bits(got) != b {
			t.Errorf("Parse(%s) = %x, %v", own, math.Float64bits(got), ok)
		}
		if (text == own) != (!math.IsNaN(x) || own == "7ff8000000000001") {
			t.Errorf("%s has the text %s", own, text)
		}
	}
}

// hex: sixteen digits of base 16, in another way than the program's.
func hex(b uint64) string {
	out := ""
	for range 16 {
		out = "0123456789abcdef"[b%16:][:1] + out
		b /= 16
	}
	return out
}

// P2.1: the first one that none stands behind.
func TestBest(t *testing.T) {
	for _, c := range []struct {
		l    []float64
		want int
	}{
		{nil, -1},
		{[]float64{}, -1},
		{[]float64{3}, 0},
		{[]float64{none}, 0},
		{[]float64{none, noneLow, noneBig}, 0},
		{[]float64{none, -inf}, 1},
		{[]float64{-inf, none}, 0},
		{[]float64{none, 1, 2, 2}, 2},
		{[]float64{2, 2, 1, none}, 0},
		{[]float64{1, none, 2}, 2},
		{[]float64{minus, 0, 0}, 1},
		{[]float64{0, minus}, 0},
		{[]float64{-1, minus, none, -inf}, 1},
		{[]float64{-2, -1, -3}, 1},
		{[]float64{math.MaxFloat64, inf, inf}, 1},
		{[]float64{least, 2 * least}, 1},
	} {
		if got := score.Best(c.l...); got != c.want {
			t.Errorf("Best(%v) = %d, want %d", c.l, got, c.want)
		}
	}
	for _, a := range all() {
		for _, b := range all() {
			want := 0
			if b.place > a.place {
				want = 1
			}
			if got := score.Best(a.x, b.x); got != want {
				t.Errorf("Best(%v, %v) = %d", a.x, b.x, got)
			}
		}
	}
}

// P2.1: Min, Max and Clamp, by places of the row.
func TestMinMaxClamp(t *testing.T) {
	at := row()
	for _, a := range all() {
		for _, b := range all() {
			if x := score.Min(a.x, b.x); !alike(x, at[min(a.place, b.place)][0]) {
				t.Errorf("Min(%v, %v) = %v", a.x, b.x, x)
			}
			if x := score.Max(a.x, b.x); !alike(x, at[max(a.place, b.place)][0]) {
				t.Errorf("Max(%v, %v) = %v", a.x, b.x, x)
			}
			for _, c := range all() {
				if x := score.Clamp(a.x, b.x, c.x); !alike(x, at[min(max(a.place, b.place), c.place)][0]) {
					t.Errorf("Clamp(%v, %v, %v) = %v", a.x, b.x, c.x, x)
				}
			}
		}
	}
}

// P2.1: the other sign, of the noughts and the infinite ones, too.
func TestNeg(t *testing.T) {
	for _, p := range all() {
		got := score.Neg(p.x)
		if math.IsNaN(p.x) {
			if !math.IsNaN(got) {
				t.Error("Neg of none is", got)
			}
			continue
		}
		if math.Float64bits(got) != math.Float64bits(p.x)^1<<63 || !alike(score.Neg(got), p.x) {
			t.Errorf("Neg(%v) = %v", p.x, got)
		}
	}
	if score.Kind(score.Neg(0)) != score.NegZero || score.Kind(score.Neg(minus)) != score.Zero {
		t.Error("Neg of the noughts")
	}
}

// P2.1: added as floats, from the first on.
func TestSumAndMean(t *testing.T) {
	const big, tiny = math.MaxFloat64, 1.0 / (1 << 53)
	for _, c := range []struct {
		l         []float64
		sum, mean float64
	}{
		{nil, 0, none},
		{[]float64{}, 0, none},
		{[]float64{5}, 5, 5},
		{[]float64{1, 2}, 3, 1.5},
		{[]float64{1, 2, 4, -3}, 4, 1},
		{[]float64{0}, 0, 0},
		{[]float64{minus}, minus, minus},
		{[]float64{minus, minus}, minus, minus},
		{[]float64{minus, 0}, 0, 0},
		{[]float64{0, minus}, 0, 0},
		{[]float64{-1, 1}, 0, 0},
		{[]float64{1, tiny, tiny}, 1, third},
		{[]float64{tiny, tiny, 1}, 1 + 2*tiny, (1 + 2*tiny) / 3},
		{[]float64{big, big, -big}, inf, inf},
		{[]float64{big, -big, big}, big, big / 3},
		{[]float64{-big, -big}, -inf, -inf},
		{[]float64{inf, 1, -big}, inf, inf},
		{[]float64{inf, -inf}, none, none},
		{[]float64{none}, none, none},
		{[]float64{1, noneLow, 2}, none, none},
		{[]float64{least, least}, 2 * least, least},
		{[]float64{least, 0}, least, 0},
		{[]float64{-least, 0}, -least, minus},
		{[]float64{0.1, 0.2, 0.3}, 0.6000000000000001, 0.20000000000000004},
		{[]float64{0.3, 0.2, 0.1}, 0.6, 0.19999999999999998},
	} {
		if got := score.Sum(c.l...); !alike(got, c.sum) {
			t.Errorf("Sum(%v) = %v, want %v", c.l, got, c.sum)
		}
		if got := score.Mean(c.l...); !alike(got, c.mean) {
			t.Errorf("Mean(%v) = %v, want %v", c.l, got, c.mean)
		}
	}
	if score.Kind(score.Sum(minus, 0)) != score.Zero || score.Text(score.Mean()) != "7ff8000000000001" {
		t.Error("the sum of the noughts, or the mean of none")
	}
}

// Rules 4 and 5: lists aren't changed, their spare room neither; the same is answered again.
func TestListsStayAsTheyWere(t *testing.T) {
	l := []float64{2, minus, 7, -inf, 5, 6}
	was := append([]float64(nil), l...)
	for range 2 {
		if b, s, m := score.Best(l[:3]...), score.Sum(l[:3]...), score.Mean(l[:3]...); b != 2 || s != 9 || m != 3 {
			t.Error(b, s, m)
		}
	}
	if !reflect.DeepEqual(l, was) || math.Float64bits(l[1]) != math.Float64bits(minus) {
		t.Error(l)
	}
}
