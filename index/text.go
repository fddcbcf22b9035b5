package index

import (
	"slices"

	"chandler/api"
	"chandler/lines"
	"chandler/mark"
	"chandler/name"
	"chandler/spec"
	"chandler/version"
)

// What lines begin with.
const (
	indexLine   = "index"
	entryLine   = "entry"
	banLine     = "ban"
	needLine    = "need"
	featureLine = "feature"
)

// yanked ends the line of an entry that is.
const yanked = "yanked"

// Parse: the index with this text.
func Parse(text string) (Index, api.Fault) {
	l, f := lines.Read(text)
	if f.Code != api.OK {
		return Index{}, f
	}
	if len(l) == 0 {
		return Index{}, api.Fault{Code: api.Syntax}
	}
	var p parser
	if f := lines.Each(l, p.line); f.Code != api.OK {
		return Index{}, f
	}
	return p.index, api.Fault{}
}

// TakeNeed: a need's words, with so many features at most.
func TakeNeed(r *lines.Reader, most int) Need {
	var n Need
	// No call panics at a nil object, and this one has nothing to read.
	if r == nil {
		return n
	}
	n.Name = lines.Take(r, checked(name.Check))
	n.Range = lines.Take(r, spec.Parse)
	for most > 0 && r.More() {
		feat := lines.Take(r, checked(name.Plain))
		if slices.Contains(n.Feats, feat) {
			r.Fail(api.Twice)
		}
		if len(n.Feats) == most {
			r.Fail(api.Bound)
		}
		n.Feats = append(n.Feats, feat)
	}
	return n
}

// Text: its text, its entries in order.
func (x Index) Text() (string, api.Errno) {
	if e := x.Check(); e != api.OK {
		return "", e
	}
	l := [][]string{{indexLine, x.Source}}
	for _, entry := range x.Sorted().Entries {
		l = append(l, entry.rows()...)
	}
	text := lines.Write(l...)
	if len(text) > api.MaxText || len(l) > api.MaxLines {
		return "", api.Bound
	}
	return text, api.OK
}

// parser has what was read so far.
type parser struct {
	index Index
}

// line reads a line: the index's own, an entry's, or one of what the last entry has.
func (p *parser) line(r *lines.Reader) {
	word := r.Word()
	// No plain name is empty: without a source there was no line yet.
	first := p.index.Source == ""
	last := len(p.index.Entries) - 1
	switch {
	case first && word == indexLine:
		p.index.Source = lines.Take(r, checked(name.Plain))
	case !first && word == entryLine:
		p.entry(r)
	case last >= 0:
		takePart(r, word, &p.index.Entries[last])
	default:
		r.Fail(api.Syntax)
	}
}

// entry reads an entry's own line.
func (p *parser) entry(r *lines.Reader) {
	if len(p.index.Entries) == api.MaxEntries {
		r.Fail(api.Bound)
	}
	var x Entry
	x.Name = lines.Take(r, checked(name.Check))
	x.Version = lines.Take(r, version.Parse)
	if has(p.index.Entries, x.Name, x.Version) {
		r.Fail(api.Twice)
	}
	x.Digest = lines.Take(r, mark.ParseDigest)
	x.Labels = lines.Take(r, mark.Parse)
	x.Yanked = r.Is(yanked)
	p.index.Entries = append(p.index.Entries, x)
}

// takePart: what an entry has more by a line that begins with that word.
func takePart(r *lines.Reader, word string, x *Entry) {
	switch {
	case word == banLine && len(x.Needs) == 0 && len(x.Feats) == 0:
		x.Bans = takeNext(r, x.Bans, api.MaxBans, 0)
	case word == needLine && len(x.Feats) > 0:
		feat := &x.Feats[len(x.Feats)-1]
		feat.Needs = takeNext(r, feat.Needs, api.MaxNeeds, api.MaxFeats)
	case word == needLine:
		x.Needs = takeNext(r, x.Needs, api.MaxNeeds, api.MaxFeats)
	case word == featureLine:
		x.Feats = takeFeat(r, x.Feats)
	default:
		r.Fail(api.Syntax)
	}
}

// takeNext: needs, and the next one of them.
func takeNext(r *lines.Reader, l []Need, most, feats int) []Need {
	if len(l) == most {
		r.Fail(api.Bound)
	}
	return append(l, TakeNeed(r, feats))
}

// takeFeat: an entry's features, and the next one of them.
func takeFeat(r *lines.Reader, l []Feat) []Feat {
	if len(l) == api.MaxFeats {
		r.Fail(api.Bound)
	}
	s := lines.Take(r, checked(name.Plain))
	if place(l, s) >= 0 {
		r.Fail(api.Twice)
	}
	return append(l, Feat{Name: s})
}

// checked: a word as it is, if it is of that form.
func checked(form func(string) bool) func(string) (string, bool) {
	return func(word string) (string, bool) { return word, form(word) }
}

// rows: an entry's lines.
func (x Entry) rows() [][]string {
	own := []string{entryLine, x.Name, x.Version.Text(), x.Digest.Text(), x.Labels.Text()}
	if x.Yanked {
		own = append(own, yanked)
	}
	l := [][]string{own}
	for _, ban := range x.Bans {
		l = append(l, ban.row(banLine))
	}
	for _, need := range x.Needs {
		l = append(l, need.row(needLine))
	}
	for _, feat := range x.Feats {
		l = append(l, []string{featureLine, feat.Name})
		for _, need := range feat.Needs {
			l = append(l, need.row(needLine))
		}
	}
	return l
}

// row: the line of a need, or a ban.
func (n Need) row(word string) []string {
	return append([]string{word, n.Name, n.Range.Text()}, n.Feats...)
}
