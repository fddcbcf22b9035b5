package policy

import (
	"slices"

	"chandler/api"
	"chandler/lines"
	"chandler/mark"
	"chandler/name"
	"chandler/score"
	"chandler/version"
)

// What lines begin with.
const (
	policyLine = "policy"
	sourceLine = "source"
	claimLine  = "claim"
	pinLine    = "pin"
	hashLine   = "hash"
	tenantLine = "tenant"
)

// What the line of a source ends with.
const (
	open   = "open"
	closed = "closed"
)

// kinds: the words of the kinds of claims.
func kinds() []string { return []string{Allow: "allow", Deny: "deny", First: "first"} }

// Parse: the policy with this text.
func Parse(text string) (Policy, api.Fault) {
	l, f := lines.Read(text)
	if f.Code != api.OK {
		return Policy{}, f
	}
	if len(l) == 0 {
		return Policy{}, api.Fault{Code: api.Syntax}
	}
	var p Policy
	begun := false
	f = lines.Each(l, func(r *lines.Reader) {
		word := r.Word()
		switch {
		case begun:
			p.take(r, word)
		case word == policyLine:
			begun = true
		default:
			r.Fail(api.Syntax)
		}
	})
	if f.Code != api.OK {
		return Policy{}, f
	}
	return p, api.Fault{}
}

// Text: its text.
func (p Policy) Text() (string, api.Errno) {
	if e := p.Check(); e != api.OK {
		return "", e
	}
	return lines.Write(slices.Concat(
		[][]string{{policyLine}},
		rows(p.Sources, Source.row),
		rows(p.Claims, Claim.row),
		rows(p.Pins, Pin.row),
		rows(p.Hashes, Hash.row),
		rows(p.Tenants, Tenant.row),
	)...), api.OK
}

// take reads a line that begins with that word, and has what it says behind what was read so far.
func (p *Policy) take(r *lines.Reader, word string) {
	switch word {
	case sourceLine:
		p.Sources = append(p.Sources, p.takeSource(r))
	case claimLine:
		p.Claims = append(p.Claims, p.takeClaim(r))
	case pinLine:
		p.Pins = append(p.Pins, p.takePin(r))
	case hashLine:
		p.Hashes = append(p.Hashes, p.takeHash(r))
	case tenantLine:
		p.Tenants = append(p.Tenants, p.takeTenant(r))
	default:
		r.Fail(api.Syntax)
	}
}

// takeSource: the next source.
func (p *Policy) takeSource(r *lines.Reader) Source {
	var s Source
	s.Name = takeNew(r, p.Sources, api.MaxSources, Source.called, name.Plain)
	s.Score = lines.Take(r, score.Parse)
	s.Open = lines.Take(r, parseOpen)
	return s
}

// takeClaim: the next claim.
func (p *Policy) takeClaim(r *lines.Reader) Claim {
	var c Claim
	c.Glob = takeNew(r, p.Claims, api.MaxClaims, Claim.called, name.Glob)
	c.Kind = lines.Take(r, parseKind)
	for r.More() {
		s := r.Word()
		if p.Source(s) < 0 {
			r.Fail(api.Missing)
		}
		if slices.Contains(c.Sources, s) {
			r.Fail(api.Twice)
		}
		c.Sources = append(c.Sources, s)
	}
	return c
}

// takePin: the next pin.
func (p *Policy) takePin(r *lines.Reader) Pin {
	var n Pin
	n.Name = takeNew(r, p.Pins, api.MaxPins, Pin.called, name.Check)
	n.Version = lines.Take(r, version.Parse)
	return n
}

// takeHash: the next allowlist.
func (p *Policy) takeHash(r *lines.Reader) Hash {
	var h Hash
	h.Name = takeNew(r, p.Hashes, api.MaxHashes, Hash.called, name.Check)
	h.Digests = append(h.Digests, lines.Take(r, mark.ParseDigest))
	for r.More() {
		d := lines.Take(r, mark.ParseDigest)
		if slices.Contains(h.Digests, d) {
			r.Fail(api.Twice)
		}
		if len(h.Digests) == api.MaxDigests {
			r.Fail(api.Bound)
		}
		h.Digests = append(h.Digests, d)
	}
	return h
}

// takeTenant: the next tenant.
func (p *Policy) takeTenant(r *lines.Reader) Tenant {
	var t Tenant
	t.Name = takeNew(r, p.Tenants, api.MaxTenants, Tenant.called, name.Plain)
	t.Labels = lines.Take(r, mark.Parse)
	return t
}

// takeNew: what the next one of a list is called, a word of that form, if the list may have one more, and has none that is called so.
func takeNew[T any](r *lines.Reader, l []T, most int, called func(T) string, form func(string) bool) string {
	if len(l) == most {
		r.Fail(api.Bound)
	}
	s := lines.Take(r, func(word string) (string, bool) { return word, form(word) })
	if place(l, called, s) >= 0 {
		r.Fail(api.Twice)
	}
	return s
}

// parseOpen: may a source have what nobody claims, by the word for that?
func parseOpen(word string) (bool, bool) { return word == open, word == open || word == closed }

// parseKind: the kind of claims with that word.
func parseKind(word string) (int, bool) {
	kind := slices.Index(kinds(), word)
	return kind, kind >= 0
}

// rows: a line of each in a list.
func rows[T any](l []T, row func(T) []string) [][]string {
	var out [][]string
	for _, x := range l {
		out = append(out, row(x))
	}
	return out
}

// row: the line of a source.
func (s Source) row() []string {
	last := closed
	if s.Open {
		last = open
	}
	return []string{sourceLine, s.Name, score.Text(s.Score), last}
}

// row: the line of a claim.
func (c Claim) row() []string {
	return append([]string{claimLine, c.Glob, kinds()[c.Kind]}, c.Sources...)
}

// row: the line of a pin.
func (n Pin) row() []string { return []string{pinLine, n.Name, n.Version.Text()} }

// row: the line of an allowlist.
func (h Hash) row() []string {
	row := []string{hashLine, h.Name}
	for _, d := range h.Digests {
		row = append(row, d.Text())
	}
	return row
}

// row: the line of a tenant.
func (t Tenant) row() []string { return []string{tenantLine, t.Name, t.Labels.Text()} }
