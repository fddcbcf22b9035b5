package lines

import (
	"chandler/api"
)

// maxDigits is how many digits a number has at most.
const maxDigits = 9

// Reader takes a line's words, one by one; what it can't take it gives up.
type Reader struct {
	line  Line
	taken int        // how many words are taken
	each  *api.Fault // the answer of the Each that it belongs to
}

// stop is what a reader panics with when it gives up. It says whose answer the
// fault is: where one Each runs within another, a reader of the outer one must
// not end the inner one alone.
type stop struct {
	each  *api.Fault
	fault api.Fault
}

// Each: by is called with a reader of each line, as long as none gives up; then nothing may be left of the line.
func Each(l []Line, by func(r *Reader)) (f api.Fault) {
	if by == nil {
		return api.Fault{Code: api.Nil}
	}
	defer func() {
		switch x := recover().(type) {
		case nil:
		case stop:
			if x.each != &f {
				panic(x)
			}
			f = x.fault
		default:
			panic(x)
		}
	}()
	for _, line := range l {
		r := &Reader{line: line, each: &f}
		by(r)
		if r.More() {
			return r.fault(api.Syntax, r.taken)
		}
	}
	return api.Fault{}
}

// Line: the line's number.
func (r *Reader) Line() int { return r.line.No }

// More: are words left?
func (r *Reader) More() bool { return r.taken < len(r.line.Words) }

// Fail gives up with an error, at the word that was taken last.
func (r *Reader) Fail(e api.Errno) { r.giveUp(r.fault(e, r.taken-1)) }

// Word: the next word.
func (r *Reader) Word() string {
	if !r.More() {
		r.giveUp(api.Fault{Code: api.Syntax, Line: r.Line()})
	}
	r.taken++
	return r.line.Words[r.taken-1]
}

// Is: is that the next word? Then it is taken.
func (r *Reader) Is(word string) bool {
	if !r.More() || r.line.Words[r.taken] != word {
		return false
	}
	r.taken++
	return true
}

// Number: the next word, a number.
func (r *Reader) Number(most int) int {
	n := Take(r, number)
	if n > most {
		r.Fail(api.Range)
	}
	return n
}

// Take: the next word, as what a function makes of it.
func Take[T any](r *Reader, parse func(string) (T, bool)) T {
	word := r.Word()
	if parse == nil {
		r.Fail(api.Nil)
	}
	x, ok := parse(word)
	if !ok {
		r.Fail(api.Syntax)
	}
	return x
}

// fault: an error at the word of that place; a line made by hand may not say where that begins.
func (r *Reader) fault(e api.Errno, place int) api.Fault {
	f := api.Fault{Code: e, Line: r.Line()}
	if place >= 0 && place < len(r.line.Cols) {
		f.Col = r.line.Cols[place]
	}
	return f
}

func (r *Reader) giveUp(f api.Fault) { panic(stop{r.each, f}) }

// number: the number that a word is, if it is one in decimal digits, without noughts ahead.
func number(word string) (int, bool) {
	if word == "" || len(word) > maxDigits || len(word) > 1 && word[0] == '0' {
		return 0, false
	}
	n := 0
	for i := 0; i < len(word); i++ {
		if word[i] < '0' || word[i] > '9' {
			return 0, false
		}
		n = n*10 + int(word[i]-'0')
	}
	return n, true
}
