package policy

import (
	"cmp"
	"slices"

	"chandler/api"
	"chandler/name"
)

// Check: may it be one?
func (p Policy) Check() api.Errno {
	// Ahead of the claims, each of which looks through them.
	if e := check(p.Sources, api.MaxSources, Source.check, Source.called); e != api.OK {
		return e
	}
	return cmp.Or(
		check(p.Claims, api.MaxClaims, func(c Claim) api.Errno { return c.check(p) }, Claim.called),
		check(p.Pins, api.MaxPins, Pin.check, Pin.called),
		check(p.Hashes, api.MaxHashes, Hash.check, Hash.called),
		check(p.Tenants, api.MaxTenants, Tenant.check, Tenant.called),
	)
}

// check: may it be a list of so many at most, each of which may be one, and none of which is called like another?
func check[T any](l []T, most int, one func(T) api.Errno, called func(T) string) api.Errno {
	if len(l) > most {
		return api.Bound
	}
	for i, x := range l {
		if e := one(x); e != api.OK {
			return e
		}
		if place(l, called, called(x)) < i {
			return api.Twice
		}
	}
	return api.OK
}

// check: may it be a source?
func (s Source) check() api.Errno { return syntax(name.Plain(s.Name)) }

// check: may it be a claim of that policy?
func (c Claim) check(p Policy) api.Errno {
	if !name.Glob(c.Glob) || c.Kind < 0 || c.Kind >= len(kinds()) {
		return api.Syntax
	}
	for i, s := range c.Sources {
		if p.Source(s) < 0 {
			return api.Missing
		}
		if slices.Index(c.Sources, s) < i {
			return api.Twice
		}
	}
	return api.OK
}

// check: may it be a pin?
func (n Pin) check() api.Errno { return syntax(name.Check(n.Name) && n.Version.Check()) }

// check: may it be an allowlist?
func (h Hash) check() api.Errno {
	if !name.Check(h.Name) || len(h.Digests) == 0 {
		return api.Syntax
	}
	if len(h.Digests) > api.MaxDigests {
		return api.Bound
	}
	for i, d := range h.Digests {
		if slices.Index(h.Digests, d) < i {
			return api.Twice
		}
	}
	return api.OK
}

// check: may it be a tenant?
func (t Tenant) check() api.Errno { return syntax(name.Plain(t.Name) && t.Labels.Check()) }

// syntax: the error of what isn't of its form.
func syntax(ok bool) api.Errno {
	if !ok {
		return api.Syntax
	}
	return api.OK
}
