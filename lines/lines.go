// Package lines is layer 1: see shared/doc/01-lines.md.
package lines

import (
	"strings"

	"chandler/api"
)

// Line is a line's words, and at which byte of it each begins (from 1 on).
type Line struct {
	No    int
	Words []string
	Cols  []int
}

// Read: the lines of a text that have words.
func Read(s string) ([]Line, api.Fault) {
	if len(s) > api.MaxText {
		return nil, api.Fault{Code: api.Bound}
	}
	return read(s, api.MaxLines)
}

// ReadAny: the same of a text of any length.
func ReadAny(s string) ([]Line, api.Fault) {
	// No text has more lines than bytes.
	return read(s, len(s))
}

// Write: lines of words, one blank between.
func Write(l ...[]string) string {
	var text strings.Builder
	for _, words := range l {
		text.WriteString(strings.Join(words, " "))
		text.WriteByte('\n')
	}
	return text.String()
}

// read: the lines that have words, of a text that may have so many lines.
func read(s string, most int) ([]Line, api.Fault) {
	var out []Line
	for no := 1; s != ""; no++ {
		if no > most {
			return nil, api.Fault{Code: api.Bound, Line: no}
		}
		var text string
		text, s, _ = strings.Cut(s, "\n")
		line, f := split(no, text)
		if f.Code != api.OK {
			return nil, f
		}
		if len(line.Words) > 0 {
			out = append(out, line)
		}
	}
	return out, api.Fault{}
}

// split: a line's words, as far as it counts.
func split(no int, text string) (Line, api.Fault) {
	text, _, _ = strings.Cut(text, "#")
	line := Line{No: no}
	for at := skip(text, 0, true); at < len(text); {
		end := skip(text, at, false)
		word := text[at:end]
		if len(line.Words) == api.MaxWords || len(word) > api.MaxWord {
			return Line{}, api.Fault{Code: api.Bound, Line: no, Col: at + 1}
		}
		if i := odd(word); i >= 0 {
			return Line{}, api.Fault{Code: api.Syntax, Line: no, Col: at + i + 1}
		}
		line.Words = append(line.Words, word)
		line.Cols = append(line.Cols, at+1)
		at = skip(text, end, true)
	}
	return line, api.Fault{}
}

// skip: the first place from at on where blanks (or what is no blank) end.
func skip(text string, at int, blanks bool) int {
	for at < len(text) && blank(text[at]) == blanks {
		at++
	}
	return at
}

func blank(c byte) bool { return c == ' ' || c == '\t' }

// odd: the place of the first byte that a word shouldn't have; -1: there is none.
func odd(word string) int {
	for i := 0; i < len(word); i++ {
		if word[i] < 33 || word[i] > 126 {
			return i
		}
	}
	return -1
}
