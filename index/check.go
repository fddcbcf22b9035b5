package index

import (
	"slices"

	"chandler/api"
	"chandler/name"
)

// Check: may it be an index?
func (x Index) Check() api.Errno {
	if !name.Plain(x.Source) {
		return api.Syntax
	}
	if len(x.Entries) > api.MaxEntries {
		return api.Bound
	}
	for i, entry := range x.Entries {
		if e := entry.Check(); e != api.OK {
			return e
		}
		if has(x.Entries[:i], entry.Name, entry.Version) {
			return api.Twice
		}
	}
	return api.OK
}

// Check: may it be an entry?
func (x Entry) Check() api.Errno {
	if !name.Check(x.Name) || !x.Version.Check() || !x.Labels.Check() {
		return api.Syntax
	}
	if e := checkNeeds(x.Bans, api.MaxBans, 0); e != api.OK {
		return e
	}
	if e := checkNeeds(x.Needs, api.MaxNeeds, api.MaxFeats); e != api.OK {
		return e
	}
	return checkFeats(x.Feats)
}

// CheckNeed: may it be one? With features, or without.
func CheckNeed(n Need, most int) api.Errno {
	if !name.Check(n.Name) || !n.Range.Check() {
		return api.Syntax
	}
	if len(n.Feats) > most {
		return api.Bound
	}
	for i, feat := range n.Feats {
		if !name.Plain(feat) {
			return api.Syntax
		}
		if slices.Contains(n.Feats[:i], feat) {
			return api.Twice
		}
	}
	return api.OK
}

// checkNeeds: may they be a list of so many needs at most, each with so many features at most?
func checkNeeds(l []Need, most, feats int) api.Errno {
	if len(l) > most {
		return api.Bound
	}
	for _, n := range l {
		if e := CheckNeed(n, feats); e != api.OK {
			return e
		}
	}
	return api.OK
}

// checkFeats: may they be an entry's features?
func checkFeats(l []Feat) api.Errno {
	if len(l) > api.MaxFeats {
		return api.Bound
	}
	for i, feat := range l {
		if !name.Plain(feat.Name) {
			return api.Syntax
		}
		if place(l, feat.Name) < i {
			return api.Twice
		}
		if e := checkNeeds(feat.Needs, api.MaxNeeds, api.MaxFeats); e != api.OK {
			return e
		}
	}
	return api.OK
}
