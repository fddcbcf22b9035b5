package order_test

import (
	"math"
	"math/rand/v2"
	"slices"
	"testing"

	"chandler/api"
	"chandler/order"
)

// heap: a heap of so many variables.
func heap(t *testing.T, n int) *order.Heap {
	t.Helper()
	h, code := order.New(n)
	if code != api.OK || h == nil || h.Len() != n {
		t.Fatal(n, code)
	}
	return h
}

// drained: all that is in, as it goes out.
func drained(h *order.Heap) []int {
	var l []int
	for {
		v, ok := h.Pop()
		if !ok {
			return l
		}
		l = append(l, v)
	}
}

func TestMaxScore(t *testing.T) {
	if order.MaxScore != 1099511627776 {
		t.Error(order.MaxScore)
	}
}

func TestNew(t *testing.T) {
	for _, n := range []int{0, 1, 2, 3, 7, 8, 100, api.MaxVars - 1, api.MaxVars} {
		h := heap(t, n)
		for v := 1; v <= n; v++ {
			if !h.Has(v) || h.Score(v) != 0 {
				t.Error(n, v)
			}
		}
		for _, v := range []int{0, -1, n + 1, n + 2, math.MinInt, math.MaxInt} {
			if h.Has(v) || h.Score(v) != 0 {
				t.Error(n, v)
			}
		}
		for i, v := range drained(h) {
			if v != i+1 {
				t.Error(n, i, v)
			}
		}
	}
	for _, n := range []int{-1, -2, math.MinInt, api.MaxVars + 1, api.MaxVars + 2, math.MaxInt} {
		if h, code := order.New(n); h != nil || code != api.Range {
			t.Error(n, h, code)
		}
	}
}

// TestExample: the greatest first, of several the least.
func TestExample(t *testing.T) {
	h := heap(t, 4)
	if h.Bump(3, 5) {
		t.Error("nothing was divided")
	}
	if l := drained(h); !slices.Equal(l, []int{3, 1, 2, 4}) {
		t.Error(l)
	}
}

func TestPop(t *testing.T) {
	h := heap(t, 6)
	for v, by := range []int{0, 7, 9, 7, 9, 0, 7} {
		h.Bump(v, by)
	}
	for i, want := range []int{2, 4, 1, 3, 6, 5} {
		v, ok := h.Pop()
		if v != want || !ok || h.Has(v) || h.Len() != 5-i {
			t.Error(i, v, ok, h.Len())
		}
	}
	for range 3 {
		if v, ok := h.Pop(); v != 0 || ok || h.Len() != 0 {
			t.Error(v, ok)
		}
	}
	// What is out keeps its score.
	for v, by := range []int{0, 7, 9, 7, 9, 0, 7} {
		if h.Score(v) != by {
			t.Error(v, h.Score(v))
		}
	}
	if v, ok := heap(t, 0).Pop(); v != 0 || ok {
		t.Error(v, ok)
	}
}

func TestPush(t *testing.T) {
	h := heap(t, 4)
	h.Bump(2, 3)
	h.Bump(4, 3)
	for _, v := range []int{0, -1, 5, 400, math.MinInt, math.MaxInt} {
		h.Push(v)
		if h.Len() != 4 || h.Has(v) {
			t.Error("no such variable", v)
		}
	}
	h.Push(2)
	h.Push(1)
	if h.Len() != 4 {
		t.Error("what is in", h.Len())
	}
	if l := drained(h); !slices.Equal(l, []int{2, 4, 1, 3}) {
		t.Error(l)
	}
	for _, v := range []int{3, 4, 4, 3, 2} {
		h.Push(v)
		if !h.Has(v) {
			t.Error(v)
		}
	}
	if h.Len() != 3 || h.Has(1) {
		t.Error(h.Len())
	}
	if l := drained(h); !slices.Equal(l, []int{2, 4, 3}) {
		t.Error(l)
	}
	for _, v := range []int{0, -1, 5} {
		h.Push(v)
	}
	if h.Len() != 0 {
		t.Error("no such variable", h.Len())
	}
}

func TestBump(t *testing.T) {
	for _, x := range []struct {
		v, by int
		score int
	}{
		{1, 0, 0},
		{1, 1, 1},
		{3, 1, 1},
		{2, order.MaxScore - 1, order.MaxScore - 1},
		{2, order.MaxScore, order.MaxScore},
		{1, -1, 0},
		{1, math.MinInt, 0},
		{1, order.MaxScore + 1, 0},
		{1, math.MaxInt, 0},
		{0, 1, 0},
		{-1, 1, 0},
		{4, 1, 0},
		{math.MinInt, 1, 0},
		{math.MaxInt, 1, 0},
		{0, order.MaxScore, 0},
		{4, order.MaxScore + 1, 0},
	} {
		h := heap(t, 3)
		if h.Bump(x.v, x.by) {
			t.Error("divided", x)
		}
		if h.Score(x.v) != x.score {
			t.Error(x, h.Score(x.v))
		}
		for v := 1; v <= 3; v++ {
			if v != x.v && h.Score(v) != 0 {
				t.Error("another one", x, v)
			}
		}
	}
}

// TestBumpNothing: what may not be said changes nothing, though a score be high.
func TestBumpNothing(t *testing.T) {
	h := heap(t, 2)
	h.Bump(1, order.MaxScore)
	for _, by := range []int{0, -1, order.MaxScore + 1, math.MinInt, math.MaxInt} {
		if h.Bump(1, by) || h.Score(1) != order.MaxScore {
			t.Error(by, h.Score(1))
		}
	}
	for _, v := range []int{0, 3, -1} {
		if h.Bump(v, order.MaxScore) || h.Score(1) != order.MaxScore {
			t.Error(v, h.Score(1))
		}
	}
}

// TestBumpOut: what is out has a score, too, and is placed by it once it is in.
func TestBumpOut(t *testing.T) {
	h := heap(t, 3)
	if v, _ := h.Pop(); v != 1 {
		t.Fatal(v)
	}
	if h.Bump(1, 4) || h.Has(1) || h.Len() != 2 || h.Score(1) != 4 {
		t.Error(h.Has(1), h.Len(), h.Score(1))
	}
	h.Bump(3, 2)
	if v, _ := h.Pop(); v != 3 {
		t.Error(v)
	}
	h.Bump(3, 3)
	h.Push(1)
	h.Push(3)
	if l := drained(h); !slices.Equal(l, []int{3, 1, 2}) {
		t.Error(l)
	}
}

const part = 1 << 20

// TestDivided: one score above the greatest, and all are less, rounded down, those of what is out too.
func TestDivided(t *testing.T) {
	h := heap(t, 7)
	for _, x := range [][2]int{{1, part - 1}, {2, part}, {3, 2*part - 1}, {4, 5*part + 77}, {5, order.MaxScore}, {6, 3 * part}} {
		if h.Bump(x[0], x[1]) {
			t.Error("too soon", x)
		}
	}
	for _, want := range []int{5, 4, 6} {
		if v, _ := h.Pop(); v != want {
			t.Error(v, want)
		}
	}
	if h.Bump(4, order.MaxScore-5*part-77) || h.Score(4) != order.MaxScore {
		t.Error("not above it", h.Score(4))
	}
	if !h.Bump(5, 1) {
		t.Error("above it")
	}
	for v, want := range []int{0, 0, 1, 1, part, part, 3, 0} {
		if h.Score(v) != want {
			t.Error(v, h.Score(v), want)
		}
	}
	for _, v := range []int{5, 6, 4} {
		h.Push(v)
	}
	if l := drained(h); !slices.Equal(l, []int{4, 5, 6, 2, 3, 1, 7}) {
		t.Error(l)
	}
}

// TestDividedFar: what is greatest goes above it by as much as may be.
func TestDividedFar(t *testing.T) {
	h := heap(t, 2)
	h.Bump(2, order.MaxScore)
	if !h.Bump(2, order.MaxScore) || h.Score(2) != 2*part || h.Score(1) != 0 {
		t.Error(h.Score(2))
	}
	if h.Bump(2, 1) || h.Score(2) != 2*part+1 {
		t.Error(h.Score(2))
	}
}

// TestDividedOrder: scores that were unlike are alike then, so that the least variable goes first.
func TestDividedOrder(t *testing.T) {
	h := heap(t, 5)
	for v := 1; v <= 5; v++ {
		h.Bump(v, 6*part+v)
	}
	if v, _ := h.Pop(); v != 5 {
		t.Fatal(v)
	}
	if !h.Bump(5, order.MaxScore) {
		t.Fatal(h.Score(5))
	}
	if l := drained(h); !slices.Equal(l, []int{1, 2, 3, 4}) {
		t.Error(l)
	}
}

func TestNil(t *testing.T) {
	for _, h := range []*order.Heap{nil, {}} {
		for _, v := range []int{0, 1, -1, 400} {
			h.Push(v)
			if h.Len() != 0 || h.Has(v) || h.Score(v) != 0 {
				t.Error(v)
			}
			if h.Bump(v, 1) || h.Bump(v, order.MaxScore) || h.Bump(v, -1) {
				t.Error(v)
			}
			if v, ok := h.Pop(); v != 0 || ok {
				t.Error(v, ok)
			}
		}
	}
}

// TestOwn: what one heap is told doesn't change another one.
func TestOwn(t *testing.T) {
	a, b := heap(t, 3), heap(t, 3)
	a.Bump(3, 9)
	a.Pop()
	if b.Score(3) != 0 || !b.Has(3) || b.Len() != 3 {
		t.Error(b.Score(3), b.Len())
	}
	if l := drained(b); !slices.Equal(l, []int{1, 2, 3}) {
		t.Error(l)
	}
}

// bag is a heap that looks through all it has.
type bag struct {
	n      int
	scores map[int]int
	in     map[int]int
}

func newBag(n int) bag {
	b := bag{n, map[int]int{}, map[int]int{}}
	for v := 1; v <= n; v++ {
		b.in[v] = 1
	}
	return b
}

func (b bag) has(v int) bool { return v >= 1 && v <= b.n }

func (b bag) pop() (int, bool) {
	best := 0
	for v := b.n; v >= 1; v-- {
		if b.in[v] > 0 && (best == 0 || b.scores[v] >= b.scores[best]) {
			best = v
		}
	}
	delete(b.in, best)
	return best, best > 0
}

func (b bag) bump(v, by int) bool {
	if !b.has(v) || by < 0 || by > order.MaxScore {
		return false
	}
	b.scores[v] += by
	if b.scores[v] <= order.MaxScore {
		return false
	}
	for v := range b.scores {
		b.scores[v] >>= 20
	}
	return true
}

// TestAgainstBag: any calls, each answered as by one that looks through all.
func TestAgainstBag(t *testing.T) {
	d := rand.New(rand.NewPCG(13, 1))
	divided, popped := 0, 0
	for range 1500 {
		n := d.IntN(14)
		if d.IntN(20) == 0 {
			n = d.IntN(api.MaxVars + 1)
		}
		h, b := heap(t, n), newBag(n)
		bys := []int{0, 1, 2, 3, 1 << d.IntN(41), part - 1, part, part + 1, 2*part - 1, order.MaxScore - d.IntN(3), order.MaxScore/3 + d.IntN(2*part), -1, order.MaxScore + 1}
		for range 150 {
			v := d.IntN(n+3) - 1
			switch d.IntN(7) {
			case 0, 1, 2:
				by := bys[d.IntN(len(bys))]
				got, want := h.Bump(v, by), b.bump(v, by)
				if got != want {
					t.Fatal("bump", n, v, by, got)
				}
				if want {
					divided++
				}
			case 3, 4:
				got, ok := h.Pop()
				want, wantOK := b.pop()
				if got != want || ok != wantOK {
					t.Fatal("pop", n, got, ok, want, wantOK)
				}
				popped++
			default:
				h.Push(v)
				if b.has(v) {
					b.in[v] = 1
				}
			}
			if h.Len() != len(b.in) || h.Has(v) != (b.in[v] > 0) || h.Score(v) != b.scores[v] {
				t.Fatal("after it", n, v, h.Len(), h.Has(v), h.Score(v))
			}
		}
		var want []int
		for v, ok := b.pop(); ok; v, ok = b.pop() {
			want = append(want, v)
		}
		if l := drained(h); !slices.Equal(l, want) {
			t.Fatal(n, l, want)
		}
	}
	if divided < 1000 || popped < 10000 {
		t.Error("the dice say too little", divided, popped)
	}
}

func TestLuby(t *testing.T) {
	for i, want := range []int{0, 1, 1, 2, 1, 1, 2, 4, 1, 1, 2, 1, 1, 2, 4, 8, 1, 1, 2, 1, 1, 2, 4, 1, 1, 2, 1, 1, 2, 4, 8, 16, 1} {
		if got := order.Luby(i); got != want {
			t.Error(i, got)
		}
	}
	for _, i := range []int{-1, -2, -3, -7, math.MinInt, math.MinInt + 1} {
		if got := order.Luby(i); got != 0 {
			t.Error(i, got)
		}
	}
}

// TestLubyRow: a long part of the row, laid as it is told: what there is, once more, and the next power.
func TestLubyRow(t *testing.T) {
	var row []int
	for power := 1; len(row) < 1<<17; power *= 2 {
		row = append(append(row, row...), power)
	}
	for i, want := range row {
		if got := order.Luby(i + 1); got != want {
			t.Fatal(i+1, got, want)
		}
	}
}

// TestLubyFar: the row's end as far as it is told, by its own rule.
func TestLubyFar(t *testing.T) {
	for k := 1; k <= 62; k++ {
		last := 1<<k - 1
		if got := order.Luby(last); got != 1<<(k-1) {
			t.Error(k, got)
		}
		if got := order.Luby(last + 1); got != 1 {
			t.Error(k, got)
		}
		for _, i := range []int{1, 2, 3, 6, 7, 8, 14, 15, 127, 1023} {
			if k < 62 && i <= last && order.Luby(last+i) != order.Luby(i) {
				t.Error(k, i, order.Luby(last+i))
			}
		}
	}
	for _, i := range []int{1<<62 + 1, math.MaxInt - 1, math.MaxInt} {
		order.Luby(i)
	}
}
