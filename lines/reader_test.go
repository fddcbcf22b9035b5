package lines_test

import (
	"errors"
	"reflect"
	"runtime"
	"strings"
	"testing"

	"chandler/api"
	"chandler/lines"
)

func mustRead(t *testing.T, text string) []lines.Line {
	t.Helper()
	l, f := lines.Read(text)
	if f != fine {
		t.Fatal(text, f)
	}
	return l
}

// P1.1: a reader of each line, in order; it takes the words in order.
func TestEachReadsAll(t *testing.T) {
	l := mustRead(t, "a b\n\nc # d\n e f g")
	var got []string
	var nos []int
	f := lines.Each(l, func(r *lines.Reader) {
		nos = append(nos, r.Line())
		for r.More() {
			got = append(got, r.Word())
		}
		if r.Line() != nos[len(nos)-1] || r.More() {
			t.Error("a reader of line", nos, "tells", r.Line())
		}
	})
	if f != fine || strings.Join(got, " ") != "a b c e f g" || !reflect.DeepEqual(nos, []int{1, 3, 4}) {
		t.Error(got, nos, f)
	}
	if f := lines.Each(nil, func(r *lines.Reader) { t.Error("there is no line") }); f != fine {
		t.Error(f)
	}
	if f := lines.Each([]lines.Line{}, func(r *lines.Reader) { t.Error("there is no line") }); f != fine {
		t.Error(f)
	}
}

// P1.1: where by is nil.
func TestEachNil(t *testing.T) {
	for _, l := range [][]lines.Line{nil, {}, {{}}, mustRead(t, "a b")} {
		if f := lines.Each(l, nil); f != (api.Fault{Code: api.Nil}) {
			t.Error(l, f)
		}
	}
}

// P1.1: what stops a reader, and where that is told.
func TestReaderGivesUp(t *testing.T) {
	length := func(s string) (int, bool) { return len(s), len(s) < 3 }
	word := func(r *lines.Reader) { r.Word() }
	for _, c := range []struct {
		what string
		text string
		by   func(r *lines.Reader)
		want api.Fault
	}{
		{"nothing is taken", "  a", func(r *lines.Reader) {}, syntax(1, 3)},
		{"a word is left", "\na  b", word, syntax(2, 4)},
		{"of a later line one is left", "a\nb\nc d", word, syntax(3, 3)},
		{"several are left", "a b c d", word, syntax(1, 3)},
		{"behind Is a word is left", "a b", func(r *lines.Reader) { r.Is("a") }, syntax(1, 3)},
		{"Is isn't it", "a b", func(r *lines.Reader) { r.Is("b") }, syntax(1, 1)},
		{"Is has part of it", "ab", func(r *lines.Reader) { r.Is("a") }, syntax(1, 1)},
		{"no word is left", "\na", func(r *lines.Reader) { r.Word(); r.Word() }, syntax(2, 0)},
		{"no number is left", "a", func(r *lines.Reader) { r.Word(); r.Number(9) }, syntax(1, 0)},
		{"nothing to parse is left", "a", func(r *lines.Reader) { r.Word(); lines.Take(r, length) }, syntax(1, 0)},
		{"nothing is left, and parse nil", "a", func(r *lines.Reader) { r.Word(); lines.Take[int](r, nil) }, syntax(1, 0)},
		{"parse is nil", "a b c", func(r *lines.Reader) { r.Word(); lines.Take[string](r, nil) }, api.Fault{Code: api.Nil, Line: 1, Col: 3}},
		{"parse says no", "a bcd e", func(r *lines.Reader) { lines.Take(r, length); lines.Take(r, length) }, syntax(1, 3)},
		{"no number", "a 1x b", func(r *lines.Reader) { r.Word(); r.Number(9) }, syntax(1, 3)},
		{"above most", "a 10 b", func(r *lines.Reader) { r.Word(); r.Number(9) }, api.Fault{Code: api.Range, Line: 1, Col: 3}},
		{"at once", "a b", func(r *lines.Reader) { r.Fail(api.Twice) }, api.Fault{Code: api.Twice, Line: 1}},
		{"behind a word", "  a b", func(r *lines.Reader) { r.Word(); r.Fail(api.Missing) }, api.Fault{Code: api.Missing, Line: 1, Col: 3}},
		{"behind Is", "a  b", func(r *lines.Reader) { r.Word(); r.Is("b"); r.Fail(api.Wrong) }, api.Fault{Code: api.Wrong, Line: 1, Col: 4}},
		{"behind an Is that isn't it", "a  b", func(r *lines.Reader) { r.Word(); r.Is("c"); r.Fail(api.Wrong) }, api.Fault{Code: api.Wrong, Line: 1, Col: 1}},
		{"behind all", "a b", func(r *lines.Reader) { r.Word(); r.Word(); r.Fail(api.Bound) }, bound(1, 3)},
		{"any number of an error", "a b", func(r *lines.Reader) { r.Word(); r.Fail(-77) }, api.Fault{Code: -77, Line: 1, Col: 1}},
		{"behind another line", "a\nb\nc", func(r *lines.Reader) {
			if !r.Is("a") {
				r.Fail(api.Limit)
			}
		}, api.Fault{Code: api.Limit, Line: 2}},
		{"deep within", "a b", func(r *lines.Reader) { func() { r.Word(); func() { r.Fail(api.None) }() }() }, api.Fault{Code: api.None, Line: 1, Col: 1}},
	} {
		l := mustRead(t, c.text)
		for range 2 { // the same again: nothing is kept (rule 5)
			if f := lines.Each(l, c.by); f != c.want {
				t.Errorf("%s: %v, want %v", c.what, f, c.want)
			}
		}
	}
}

// P1.1: what is given up ends it: nothing behind is done, no line behind is read, whatever the error.
func TestGivingUpEndsEach(t *testing.T) {
	l := mustRead(t, "a b\nc d\ne f")
	for _, e := range []api.Errno{api.OK, api.Syntax, api.Wrong} {
		calls := 0
		f := lines.Each(l, func(r *lines.Reader) {
			calls++
			r.Word()
			if r.Is("d") {
				r.Fail(e)
				t.Error("Fail has come back")
			}
			r.Word()
		})
		if calls != 2 || f != (api.Fault{Code: e, Line: 2, Col: 3}) {
			t.Error(e, calls, f)
		}
	}
	calls := 0
	if f := lines.Each(l, func(r *lines.Reader) { calls++; r.Word() }); calls != 1 || f != syntax(1, 3) {
		t.Error("a word is left:", calls, f)
	}
}

// P1.1: lines that are made by hand, whose Cols don't fit, or that have no words.
func TestEachOddLines(t *testing.T) {
	odd := lines.Line{No: -4, Words: []string{"a", "", "c"}, Cols: []int{50}}
	for _, c := range []struct {
		l    lines.Line
		by   func(r *lines.Reader)
		want api.Fault
	}{
		{odd, func(r *lines.Reader) { r.Word(); r.Fail(api.Twice) }, api.Fault{Code: api.Twice, Line: -4, Col: 50}},
		{odd, func(r *lines.Reader) { r.Word(); r.Word(); r.Fail(api.Twice) }, api.Fault{Code: api.Twice, Line: -4}},
		{odd, func(r *lines.Reader) { r.Word(); r.Number(3) }, syntax(-4, 0)},
		{odd, func(r *lines.Reader) { r.Word() }, syntax(-4, 0)},
		{odd, func(r *lines.Reader) {}, syntax(-4, 50)},
		{odd, func(r *lines.Reader) { r.Word(); r.Word(); r.Word() }, fine},
		{odd, func(r *lines.Reader) { r.Is("a"); r.Is(""); r.Is("c") }, fine},
		{odd, func(r *lines.Reader) { r.Is("") }, syntax(-4, 50)},
		{lines.Line{No: 3}, func(r *lines.Reader) {}, fine},
		{lines.Line{No: 3}, func(r *lines.Reader) {
			if r.More() || r.Is("") || r.Line() != 3 {
				t.Error("a line without words has some")
			}
			r.Word()
		}, syntax(3, 0)},
		{lines.Line{No: 3, Cols: []int{9, 9}}, func(r *lines.Reader) { r.Fail(api.Nil) }, api.Fault{Code: api.Nil, Line: 3}},
		{lines.Line{No: 3, Words: []string{"a"}, Cols: []int{-2, 9}}, func(r *lines.Reader) { r.Word(); r.Fail(api.Nil) }, api.Fault{Code: api.Nil, Line: 3, Col: -2}},
	} {
		if f := lines.Each([]lines.Line{c.l}, c.by); f != c.want {
			t.Errorf("%v: %v, want %v", c.l, f, c.want)
		}
	}
}

// P1.1: Is takes a word just if it is that.
func TestIs(t *testing.T) {
	f := lines.Each(mustRead(t, "a b"), func(r *lines.Reader) {
		if r.Is("b") || r.Is("") || r.Is("A") || r.Is("a b") || !r.Is("a") || r.Is("a") || !r.More() {
			t.Error("Is, at the first word")
		}
		if !r.Is("b") || r.Is("b") || r.Is("") || r.More() {
			t.Error("Is, at the last word")
		}
	})
	if f != fine {
		t.Error(f)
	}
}

// numberOf: what Number makes of a word, or the fault that it gives up with.
func numberOf(word string, most int) (int, api.Fault) {
	n := 0
	f := lines.Each([]lines.Line{{No: 7, Words: []string{word}, Cols: []int{5}}}, func(r *lines.Reader) { n = r.Number(most) })
	return n, f
}

// P1.1: one to nine digits, no nought ahead of others; not above most.
func TestNumber(t *testing.T) {
	const all = 1 << 30
	for word, want := range map[string]int{
		"0": 0, "1": 1, "9": 9, "10": 10, "42": 42, "100": 100, "123456789": 123456789, "999999999": 999999999, "900000000": 900000000,
	} {
		for _, most := range []int{want, want + 1, all} {
			if n, f := numberOf(word, most); n != want || f != fine {
				t.Errorf("%q, at most %d: %d, %v", word, most, n, f)
			}
		}
		for _, most := range []int{want - 1, -1, -all} {
			if n, f := numberOf(word, most); n != 0 || f != (api.Fault{Code: api.Range, Line: 7, Col: 5}) {
				t.Errorf("%q, at most %d: %d, %v", word, most, n, f)
			}
		}
	}
	for _, word := range []string{
		"", "00", "01", "007", "000000000", "1000000000", "0000000001", "9999999999", "99999999999999999999", "-1", "-0", "+1", "1.", "1.0", "1e3", "0x1", "1_0", " 1", "1 ", "a", "1a", "a1", "/", ":", "1/", "1:", "\x00", "\xd9\xa1", "-",
	} {
		for _, most := range []int{all, 0, -1} {
			if n, f := numberOf(word, most); n != 0 || f != syntax(7, 5) {
				t.Errorf("%q, at most %d: %d, %v", word, most, n, f)
			}
		}
	}
	for n := range 2000 {
		word := ""
		for x := n; x > 0 || word == ""; x /= 10 {
			word = string(rune('0'+x%10)) + word
		}
		if got, f := numberOf(word, all); got != n || f != fine {
			t.Fatalf("%q: %d, %v", word, got, f)
		}
	}
}

type pair struct {
	text string
	n    int
}

// P1.1: a word is made into anything, just as parse makes it, once.
func TestTake(t *testing.T) {
	calls := 0
	toPair := func(s string) (pair, bool) { calls++; return pair{s, calls}, true }
	toBytes := func(s string) ([]byte, bool) { return []byte(s), true }
	toError := func(s string) (error, bool) { return errors.New(s), s == "c" }
	f := lines.Each(mustRead(t, "a b c d"), func(r *lines.Reader) {
		if p := lines.Take(r, toPair); p != (pair{"a", 1}) || calls != 1 {
			t.Error(p, calls)
		}
		if b := lines.Take(r, toBytes); string(b) != "b" {
			t.Error(b)
		}
		if e := lines.Take(r, toError); e == nil || e.Error() != "c" {
			t.Error(e)
		}
		lines.Take(r, toError)
		t.Error("Take has come back")
	})
	if f != syntax(1, 7) {
		t.Error(f)
	}
}

// caught: what a call panics with.
func caught(call func()) (x any) {
	defer func() { x = recover() }()
	call()
	return nil
}

// P1.1: what else by panics with goes on, as it was.
func TestOtherPanicsGoOn(t *testing.T) {
	l := mustRead(t, "a b\nc")
	cause := errors.New("other")
	for _, x := range []any{cause, "text", 7, api.Syntax, api.Fault{Code: api.Syntax, Line: 1, Col: 1}, &pair{}} {
		calls := 0
		got := caught(func() {
			f := lines.Each(l, func(r *lines.Reader) { calls++; r.Word(); panic(x) })
			t.Error("Each has answered", f)
		})
		if got != x || calls != 1 {
			t.Errorf("%v goes on as %v, behind %d calls", x, got, calls)
		}
	}
	inParse := caught(func() {
		lines.Each(l, func(r *lines.Reader) { lines.Take(r, func(string) (int, bool) { panic(cause) }) })
	})
	if inParse != cause {
		t.Error(inParse)
	}
	var none []int
	if _, ok := caught(func() { lines.Each(l, func(r *lines.Reader) { _ = none[len(r.Word())] }) }).(runtime.Error); !ok {
		t.Error("an error of the language's own doesn't go on")
	}
	if _, ok := caught(func() { lines.Each(l, func(r *lines.Reader) { panic(nil) }) }).(*runtime.PanicNilError); !ok {
		t.Error("a panic with nil doesn't go on")
	}
}

// P1.1: where one Each runs within another, a reader ends its own.
func TestEachWithinEach(t *testing.T) {
	outer, inner := mustRead(t, "a b\nc d"), mustRead(t, "\n\nx y")
	words := 0
	f := lines.Each(outer, func(r *lines.Reader) {
		r.Word()
		g := lines.Each(inner, func(q *lines.Reader) { q.Word(); q.Fail(api.Twice) })
		if g != (api.Fault{Code: api.Twice, Line: 3, Col: 1}) {
			t.Error("inner:", g)
		}
		r.Word()
		words++
	})
	if f != fine || words != 2 {
		t.Error("outer:", f, words)
	}
	f = lines.Each(outer, func(r *lines.Reader) {
		r.Word()
		lines.Each(inner, func(q *lines.Reader) { q.Word(); r.Fail(api.Wrong) })
		t.Error("the outer one goes on")
	})
	if f != (api.Fault{Code: api.Wrong, Line: 1, Col: 1}) {
		t.Error("outer:", f)
	}
	var first *lines.Reader
	f = lines.Each(outer, func(r *lines.Reader) {
		if first == nil {
			first = r
		}
		r.Word()
		r.Word()
		if r != first {
			first.Fail(api.Limit)
		}
	})
	if f != (api.Fault{Code: api.Limit, Line: 1, Col: 3}) {
		t.Error("by the reader of a line ahead:", f)
	}
}

// P1.3, rule 4: the lines aren't changed, nor their spare room.
func TestEachChangesNothing(t *testing.T) {
	make3 := func() []lines.Line {
		words, cols := []string{"a", "b", "spare"}, []int{1, 3, 77}
		return []lines.Line{{No: 1, Words: words[:2], Cols: cols[:2]}, {No: 2, Words: words[:1], Cols: cols[:1]}, {No: 9, Words: words, Cols: cols}}
	}
	l := make3()
	f := lines.Each(l[:2], func(r *lines.Reader) {
		for r.More() {
			if !r.Is("b") {
				lines.Take(r, func(s string) (string, bool) { return s + s, true })
			}
		}
	})
	if f != fine || !reflect.DeepEqual(l, make3()) {
		t.Error(f, l)
	}
}

// Rule 6: whatever is done with readers, in whatever order, Each ends and answers.
func TestReadersNeverPanic(t *testing.T) {
	l := []lines.Line{one(1, []string{"a", "12"}, 1, 3), {No: 2}, {No: 3, Words: []string{"", "b", "0"}, Cols: []int{4}}, {Cols: []int{1}}}
	acts := []func(r *lines.Reader){
		func(r *lines.Reader) { r.Word() },
		func(r *lines.Reader) { r.Is("a") },
		func(r *lines.Reader) { r.Is("") },
		func(r *lines.Reader) { r.Number(12) },
		func(r *lines.Reader) { r.Number(-1) },
		func(r *lines.Reader) { r.Fail(api.Range) },
		func(r *lines.Reader) { r.More(); r.Line() },
		func(r *lines.Reader) { lines.Take[int](r, nil) },
		func(r *lines.Reader) { lines.Take(r, func(s string) (int, bool) { return 0, s != "b" }) },
	}
	n := len(acts)
	for i := range n * n * n * n {
		by := func(r *lines.Reader) {
			for x := i; x > 0; x /= n {
				acts[x%n](r)
			}
		}
		if x := caught(func() { lines.Each(l, by) }); x != nil {
			t.Fatal(i, x)
		}
	}
}
