package view_test

import (
	"math"
	"math/rand/v2"
	"reflect"
	"slices"
	"strings"
	"testing"

	"chandler/api"
	"chandler/index"
	"chandler/mark"
	"chandler/policy"
	"chandler/trust"
	"chandler/version"
	"chandler/view"
)

// dice throw policies and catalogs.
type dice struct{ *rand.Rand }

func one[T any](d dice, l ...T) T { return l[d.IntN(len(l))] }

// some: so many of a list at most, each once, in any order.
func some[T any](d dice, most int, l ...T) []T {
	l = slices.Clone(l)
	d.Shuffle(len(l), func(i, j int) { l[i], l[j] = l[j], l[i] })
	return l[:d.IntN(min(most, len(l))+1)]
}

func (d dice) version() version.Version {
	return v(one(d, "1.0.0", "1.0.0-a", "1.0.0-b.1", "2.0.0", "0.9.0", "10.0.0"))
}

func (d dice) digest() mark.Digest { return mark.Digest(d.IntN(3)) }

func (d dice) labels() mark.Labels {
	return mark.Labels(d.IntN(8) & d.IntN(8))
}

func (d dice) policy() policy.Policy {
	var p policy.Policy
	names := some(d, 6, "m", "n", "m-1", "b", "a", "z")
	for _, s := range names {
		p.Sources = append(p.Sources, policy.Source{Name: s, Score: one(d, 0, 1, math.Copysign(0, -1), math.NaN(), 2), Open: d.IntN(2) == 0})
	}
	for _, glob := range some(d, 3, "*", "a", "a*", "b", "@s/*", "ab") {
		p.Claims = append(p.Claims, policy.Claim{Glob: glob, Kind: one(d, policy.First, policy.Allow, policy.First, policy.Deny), Sources: some(d, 6, names...)})
	}
	for _, s := range some(d, 2, "a", "ab", "b", "@s/a") {
		p.Pins = append(p.Pins, policy.Pin{Name: s, Version: d.version()})
	}
	for _, s := range some(d, 2, "a", "ab", "b", "@s/a") {
		p.Hashes = append(p.Hashes, policy.Hash{Name: s, Digests: []mark.Digest{d.digest()}})
	}
	return p
}

func (d dice) entry() index.Entry {
	return index.Entry{Name: one(d, "a", "a", "ab", "a", "b", "@s/a", "a-b"), Version: d.version(), Digest: d.digest(), Labels: d.labels(), Yanked: d.IntN(4) == 0}
}

// into: a catalog with an entry more, if it may have it.
func into(cat []index.Index, source string, x index.Entry) ([]index.Index, bool) {
	at := slices.IndexFunc(cat, func(y index.Index) bool { return y.Source == source })
	if at < 0 {
		return append(slices.Clone(cat), index.Index{Source: source, Entries: []index.Entry{x}}), true
	}
	for _, y := range cat[at].Entries {
		if y.Name == x.Name && y.Version == x.Version {
			return cat, false
		}
	}
	out := slices.Clone(cat)
	out[at].Entries = append(slices.Clone(out[at].Entries), x)
	return out, true
}

func (d dice) source() string { return one(d, "m", "n", "m-1", "b", "a", "z", "none") }

func (d dice) catalog(most int) []index.Index {
	var cat []index.Index
	for range d.IntN(most + 1) {
		cat, _ = into(cat, d.source(), d.entry())
	}
	return cat
}

// has: has the tenant a label, and each of an entry, told letter by letter?
func has(top mark.Labels, x index.Entry) bool {
	text := strings.TrimPrefix(x.Labels.Text(), "-")
	return !strings.ContainsFunc(text, func(r rune) bool { return !strings.ContainsRune(top.Text(), r) })
}

// visible: does somebody see an entry of a source?
func visible(p policy.Policy, top mark.Labels, x index.Entry, source string) bool {
	return has(top, x) && slices.Contains(trust.Trusted(p, x.Name), source)
}

// reasons: which of the first three speak against an entry.
func reasons(p policy.Policy, x index.Entry) []int {
	var l []int
	pinned := false
	for _, n := range p.Pins {
		if n.Name == x.Name {
			pinned = true
			if n.Version != x.Version {
				l = append(l, 1)
			}
		}
	}
	for _, h := range p.Hashes {
		if h.Name == x.Name && !slices.Contains(h.Digests, x.Digest) {
			l = append(l, 2)
		}
	}
	if x.Yanked && !pinned {
		l = append(l, 3)
	}
	return l
}

// foremost: the source of a First claim that has something of a name that is fine, gone through in the claim's order; nothing: none has.
func foremost(p policy.Policy, top mark.Labels, cat []index.Index, s string) string {
	at := trust.Claim(p, s)
	if at < 0 || p.Claims[at].Kind != policy.First {
		return ""
	}
	for _, source := range p.Claims[at].Sources {
		for _, x := range cat {
			for _, y := range x.Entries {
				if x.Source == source && y.Name == s && has(top, y) && len(reasons(p, y)) == 0 {
					return source
				}
			}
		}
	}
	return ""
}

// ahead: does a stand ahead of b in what is seen?
func ahead(p policy.Policy, a, b view.Seen) bool {
	if a.Name != b.Name {
		return a.Name < b.Name
	}
	if a.Version != b.Version {
		return version.Compare(a.Version, b.Version) > 0
	}
	return trust.Compare(p, a.Source, b.Source) < 0
}

// seeing: what is seen, told in another way than the program does: what is later by the foremost source, each one's place by how many stand ahead of it.
func seeing(p policy.Policy, top mark.Labels, cat []index.Index) []view.Seen {
	var all []view.Seen
	for _, x := range cat {
		for _, y := range x.Entries {
			if !visible(p, top, y, x.Source) {
				continue
			}
			l := reasons(p, y)
			if first := foremost(p, top, cat, y.Name); first != "" && first != x.Source {
				l = append(l, 4)
			}
			all = append(all, view.Seen{Cand: view.Cand{Entry: y, Source: x.Source}, Why: append(l, 0)[0]})
		}
	}
	out := make([]view.Seen, len(all))
	for _, a := range all {
		place := 0
		for _, b := range all {
			if ahead(p, b, a) {
				place++
			}
		}
		out[place] = a
	}
	return out
}

// same: are two lists alike?
func same(a, b []view.Seen) bool { return len(a) == 0 && len(b) == 0 || reflect.DeepEqual(a, b) }

// hidden: a catalog without what isn't seen; and with more that isn't.
func (d dice) hidden(p policy.Policy, top mark.Labels, cat []index.Index) (without, with []index.Index) {
	for _, x := range cat {
		for _, y := range x.Entries {
			if visible(p, top, y, x.Source) {
				without, _ = into(without, x.Source, y)
			}
		}
	}
	with = cat
	for range 12 {
		x, source := d.entry(), d.source()
		if !visible(p, top, x, source) {
			with, _ = into(with, source, x)
		}
	}
	return without, with
}

// P11.3: what may be taken comes from whom one trusts, is on the list, and is the pinned version.
func mayBeTaken(t *testing.T, p policy.Policy, top mark.Labels, l []view.Seen) {
	t.Helper()
	fine := view.Adm(l)
	for _, x := range fine {
		pin, pinned := p.Pin(x.Name)
		if !trust.Trusts(p, x.Name, x.Source) || !p.Hash(x.Name, x.Digest) || pinned && pin != x.Version || x.Yanked && !pinned || !has(top, x.Entry) {
			t.Fatalf("%+v: %+v may be taken", p, x)
		}
	}
	at := 0
	for _, x := range l {
		if x.Why == view.Fine {
			if at == len(fine) || !reflect.DeepEqual(fine[at], x.Cand) {
				t.Fatalf("%+v of %+v", fine, l)
			}
			at++
		}
	}
	if at != len(fine) {
		t.Fatalf("%+v of %+v", fine, l)
	}
}

// P11.1, P11.2, P11.3: random policies and catalogs.
func TestRandomCatalogs(t *testing.T) {
	d := dice{rand.New(rand.NewPCG(11, 1))}
	whys := map[int]int{}
	unseen := 0
	for range 20000 {
		p, cat, top := d.policy(), d.catalog(32), d.labels()|d.labels()
		if e := p.Check(); e != api.OK {
			t.Fatalf("%+v: %d", p, e)
		}
		for _, x := range cat {
			if e := x.Check(); e != api.OK {
				t.Fatalf("%+v: %d", x, e)
			}
		}
		got, want := view.See(p, top, cat), seeing(p, top, cat)
		if !same(got, want) {
			t.Fatalf("%+v\n%s sees\n%+v\nof %+v\nwant\n%+v", p, top.Text(), got, cat, want)
		}
		mayBeTaken(t, p, top, got)
		without, with := d.hidden(p, top, cat)
		if !same(view.See(p, top, without), got) || !same(view.See(p, top, with), got) {
			t.Fatalf("%+v\n%s sees more by what isn't seen: %+v, %+v, %+v", p, top.Text(), without, cat, with)
		}
		d.Shuffle(len(with), func(i, j int) { with[i], with[j] = with[j], with[i] })
		for _, x := range with {
			d.Shuffle(len(x.Entries), func(i, j int) { x.Entries[i], x.Entries[j] = x.Entries[j], x.Entries[i] })
		}
		if !same(view.See(p, top, with), got) {
			t.Fatalf("%+v\n%s sees %+v in another order", p, top.Text(), with)
		}
		for _, x := range got {
			whys[x.Why]++
		}
		for _, x := range cat {
			unseen += len(x.Entries)
		}
		unseen -= len(got)
	}
	for why := range 5 {
		if whys[why] < 1000 {
			t.Errorf("%d of why %d", whys[why], why)
		}
	}
	if unseen < 1000 {
		t.Error(unseen, "aren't seen")
	}
}
