package ormap_test

import (
	"fmt"
	"math/rand"
	"slices"
	"strings"
	"testing"

	"plexus/api"
	"plexus/cell"
	"plexus/ops"
	"plexus/ormap"
)

// deed is one op of a history: the transaction that it is of, its place, and the op; an ActDrop drops its field.
type deed struct {
	tx    api.Tx
	index int
	op    api.Op
}

// done does a deed.
func (d deed) done(l []api.Field) []api.Field {
	if d.op.Act == api.ActDrop {
		return ormap.Drop(l, d.tx, d.index, d.op.Field, d.op.Inner)
	}
	return ormap.Do(l, d.tx, d.index, d.op)
}

// account does a deed by the document's words, told plainly.
func (d deed) account(l []api.Field) []api.Field {
	if d.op.Act == api.ActDrop {
		return wantDrop(l, d.tx, d.index, d.op.Field, d.op.Inner)
	}
	return wantDo(l, d.tx, d.index, d.op)
}

// mark answers a deed's Mark.
func (d deed) mark() api.Mark {
	return api.Mark{Dot: d.tx.Dot, Index: d.index}
}

// sees tells whether a deed has seen another one.
func (d deed) sees(other deed) bool {
	return ops.Before(other.mark(), d.tx, d.index)
}

// orders hands each order of a list, from its place k on, to visit.
func orders[T any](l []T, k int, visit func([]T)) {
	if k == len(l) {
		visit(l)
		return
	}
	for i := k; i < len(l); i++ {
		l[k], l[i] = l[i], l[k]
		orders(l, k+1, visit)
		l[k], l[i] = l[i], l[k]
	}
}

// blind are deeds of six peers that have not seen each other: three change the field f of a kind, the others one of the same name and the next kind, one of another name, and one by an act that its kind does not take.
func blind(kind int) []deed {
	by := func(peer int, time int, o api.Op) deed {
		return deed{tx(peer, 1, time, api.Vec{}), 1, o}
	}
	idle := change("e", kind, 0, "")
	idle.Act = 6
	return []deed{
		by(2, 9, change("f", kind, 1, "x")), by(3, 4, change("f", kind, -20, "b")), by(4, 1, change("f", kind, 400, "c")),
		by(5, 2, change("f", kind%5+1, 7, "t")), by(6, 2, change("g", kind, 8, "u")), by(12, 2, idle),
	}
}

// reads is what is read of the field f behind all blind deeds, and a Drop of it that has seen none of them, that of the peers 2 and 3; behind one that has seen all, there is no such field.
func reads(kind int) [2]api.Named {
	switch kind {
	case api.Counter:
		return [2]api.Named{number("f", 381), number("f", 400)}
	case api.Last:
		return [2]api.Named{texts("f", kind, "x"), texts("f", kind, "c")}
	case api.Seq:
		return [2]api.Named{texts("f", kind, "x", "b", "c"), texts("f", kind, "c")}
	}
	return [2]api.Named{texts("f", kind, "b", "c", "x"), texts("f", kind, "c")}
}

// beside answers what is read of the blind deeds beside the field f of their kind, with that one in its place, if there is one.
func beside(kind int, its ...api.Named) api.Value {
	leaf := func(name string, kind int, n int, l ...string) api.Named {
		if kind == api.Counter {
			return number(name, n)
		}
		return texts(name, kind, l...)
	}
	next := leaf("f", kind%5+1, 7, "t")
	its = append(slices.Clone(its), next)
	if kind == api.Seq {
		slices.Reverse(its)
	}
	return value(slices.Concat([]api.Named{leaf("e", kind, 0)}, its, []api.Named{leaf("g", kind, 8, "u")})...)
}

// P13.2 to P13.4: ops of several peers that have not seen each other, in every order, upon fields of every kind, then a Drop by one that has seen none, some and all of them, and Folds by cuts that have none, some and all: the order is nothing, each Cell is layer 12's, and folding changes nothing that is read.
func TestEveryOrder(t *testing.T) {
	count := 0
	for _, kind := range kinds() {
		var first []api.Field
		orders(blind(kind), 0, func(l []deed) {
			var got []api.Field
			c := fresh(kind)
			for _, d := range l {
				got = d.done(got)
				if d.op.Field == "f" && d.op.Inner == kind {
					c = cell.Do(c, d.tx, d.index, d.op)
					askFind(t, got, "f", kind, c)
				}
			}
			if first == nil {
				first = got
			}
			askDropped(t, got, c)
			askCheck(t, got, true)
			ask(t, "another order", got, first)
			count++
		})
		ask(t, "Read", ormap.Read(first), beside(kind, reads(kind)[0]))
		askFind(t, first, "e", kind, fresh(kind))
		askFind(t, first, "g", kind, cell.Do(fresh(kind), tx(6, 1, 2, api.Vec{}), 1, change("g", kind, 8, "u")))
	}
	if count != 3600 {
		t.Error(count, "orders")
	}
}

// askDropped asks what is left of all blind deeds behind a Drop of the field f, whose Cell is c, and behind Folds of that.
func askDropped(t *testing.T, l []api.Field, c api.Cell) {
	t.Helper()
	kind := c.Kind
	none, some, all := api.Vec{}, api.Vec{0, 0, 1, 1}, api.Vec{0, 0, 1, 1, 1, 1, 1, 0, 0, 0, 0, 0, 1}
	left := map[api.Vec][]api.Named{none: {reads(kind)[0]}, some: {reads(kind)[1]}, all: nil}
	for deps, its := range left {
		x := tx(7, 1, 10, deps)
		dropped := ormap.Drop(l, x, 1, "f", kind)
		cleared := cell.Clear(c, x, 1)
		ask(t, "Read", ormap.Read(dropped), beside(kind, its...))
		if deps == all && kind != api.Seq {
			askNone(t, dropped, "f", kind)
		} else {
			askFind(t, dropped, "f", kind, cleared)
		}
		// The cut with the Drop's own Dot takes a sequence's elements, too.
		for _, cut := range []api.Vec{none, some, all, {0, 0, 1, 1, 1, 1, 1, 1, 0, 0, 0, 0, 1}} {
			folded := ormap.Fold(dropped, cut)
			askCheck(t, folded, true)
			ask(t, "Fold", folded, wantFold(dropped, cut))
			ask(t, "Read", ormap.Read(folded), beside(kind, its...))
			if deps != all || kind == api.Seq && cut[7] == 0 {
				askFind(t, folded, "f", kind, cell.Fold(cleared, cut))
			} else {
				askNone(t, folded, "f", kind)
			}
		}
	}
}

// P13.4: a field that somebody changes who has not seen that it was dropped is there, with what was changed since, whichever is done first.
func TestChangedWhileDropped(t *testing.T) {
	base := tx(1, 1, 1, api.Vec{})
	for _, kind := range kinds() {
		l := ormap.Do(nil, base, 1, change("f", kind, 100, "base"))
		drop := deed{tx(2, 1, 2, api.Vec{0, 1}), 1, api.Op{Field: "f", Inner: kind, Act: api.ActDrop}}
		more := deed{tx(3, 1, 3, api.Vec{0, 1}), 1, change("f", kind, 7, "more")}
		want := value(texts("f", kind, "more"))
		if kind == api.Counter {
			want = value(number("f", 7))
		}
		a, b := more.done(drop.done(l)), drop.done(more.done(l))
		ask(t, "dropped first", ormap.Read(a), want)
		ask(t, "changed first", ormap.Read(b), want)
		ask(t, "either", a, b)
		for _, cut := range []api.Vec{{0, 1}, {0, 1, 1}, {0, 1, 0, 1}, {0, 1, 1, 1}, everything()} {
			ask(t, "folded", ormap.Read(ormap.Fold(a, cut)), want)
		}
		folded := ormap.Fold(l, api.Vec{0, 1})
		ask(t, "folded ahead", ormap.Read(more.done(drop.done(folded))), want)
		ask(t, "folded ahead", ormap.Read(drop.done(more.done(folded))), want)
		late := deed{tx(4, 1, 4, api.Vec{0, 1, 1}), 1, change("f", kind, 5, "late")}
		end := late.done(drop.done(l))
		want.Fields[0].Value = cell.Read(cell.Do(fresh(kind), late.tx, 1, late.op))
		ask(t, "behind it", ormap.Read(end), want)
	}
}

// names are those of a history's fields.
func names() []string {
	return []string{"a", "ab", "b"}
}

// leaf is what was done to one field: its deeds, and those that dropped it.
type leaf struct {
	kind  int
	deeds []deed
	drops []deed
}

// live tells whether nobody who dropped the field has seen a deed.
func (f leaf) live(d deed) bool {
	return !slices.ContainsFunc(f.drops, func(drop deed) bool { return drop.sees(d) })
}

// unseen answers the live deeds of an act that none of those that take them away has seen.
func (f leaf) unseen(act int, away func(d deed, by deed) bool) []deed {
	var l []deed
	for _, d := range f.deeds {
		gone := func(by deed) bool { return away(d, by) && by.sees(d) }
		if d.op.Act == act && len(d.op.Text) <= textMost && f.live(d) && !slices.ContainsFunc(f.deeds, gone) {
			l = append(l, d)
		}
	}
	return l
}

// value answers what is to be read of the field, by chapter 17's words.
func (f leaf) value() api.Value {
	v := api.Value{Kind: f.kind}
	switch f.kind {
	case api.Counter:
		for _, d := range f.deeds {
			if d.op.Act == api.ActAdd && d.op.N <= 1<<30 && f.live(d) {
				v.N += d.op.N
			}
		}
	case api.Last, api.Many:
		l := f.unseen(api.ActPut, func(d deed, by deed) bool { return by.op.Act == api.ActPut && len(by.op.Text) <= textMost })
		slices.SortFunc(l, later)
		if f.kind == api.Last {
			l = l[:min(1, len(l))]
		}
		v.Texts = rising(l)
	case api.Set:
		v.Texts = rising(f.unseen(api.ActAdd, func(d deed, by deed) bool { return by.op.Act == api.ActDel && by.op.Text == d.op.Text }))
	case api.Seq:
		for _, d := range f.behind(api.Mark{}) {
			del := func(by deed) bool { return by.op.Act == api.ActDel && by.op.Ref == d.mark() }
			if f.live(d) && !slices.ContainsFunc(f.deeds, del) {
				v.Texts = append(v.Texts, d.op.Text)
			}
		}
	}
	return v
}

// behind answers the insertions that count and stand behind a mark, however far, in their order.
func (f leaf) behind(ref api.Mark) []deed {
	var next, all []deed
	for _, d := range f.deeds {
		if d.op.Act == api.ActIns && d.op.Ref == ref && len(d.op.Text) <= textMost && !f.seesGone(d) {
			next = append(next, d)
		}
	}
	slices.SortFunc(next, later)
	for _, d := range next {
		all = append(append(all, d), f.behind(d.mark())...)
	}
	return all
}

// seesGone tells whether an insertion has seen that its Ref is gone.
func (f leaf) seesGone(d deed) bool {
	del := func(by deed) bool { return by.op.Act == api.ActDel && by.op.Ref == d.op.Ref && d.sees(by) }
	drop := func(by deed) bool { return d.sees(by) && ops.Before(d.op.Ref, by.tx, by.index) }
	return d.op.Ref != api.Mark{} && (slices.ContainsFunc(f.deeds, del) || slices.ContainsFunc(f.drops, drop))
}

// later puts the deed of the greater time first, of one time the one of the greater mark.
func later(a deed, b deed) int {
	if a.tx.Time != b.tx.Time {
		return b.tx.Time - a.tx.Time
	}
	if ops.Less(b.mark(), a.mark()) {
		return -1
	}
	return 1
}

// rising answers the deeds' texts, rising, each once.
func rising(l []deed) []string {
	var all []string
	for _, d := range l {
		all = append(all, d.op.Text)
	}
	slices.Sort(all)
	return slices.Compact(all)
}

// defined answers what is to be read of a map, by chapter 17's words: of all deeds that were done.
func defined(done []deed) api.Value {
	v := api.Value{Kind: api.Map}
	for _, name := range names() {
		for _, kind := range kinds() {
			f := leaf{kind: kind}
			for _, d := range done {
				switch {
				case d.op.Field != name || d.op.Inner != kind:
				case d.op.Act == api.ActDrop:
					f.drops = append(f.drops, d)
				default:
					f.deeds = append(f.deeds, d)
				}
			}
			if slices.ContainsFunc(f.deeds, f.live) {
				v.Fields = append(v.Fields, api.Named{Name: name, Value: f.value()})
			}
		}
	}
	return v
}

// anyOp answers an op of any act upon a field of few names and of two kinds, of few numbers and texts, some beyond what may be, and often with the mark of an op that it has seen.
func anyOp(r *rand.Rand, seen []api.Mark, kind int) api.Op {
	o := api.Op{Kind: api.Map, Key: "m", Field: names()[r.Intn(3)], Inner: kind, Act: r.Intn(6), N: r.Intn(9) - 4, Text: string(rune('a' + r.Intn(4)))}
	if r.Intn(4) == 0 {
		o.Inner = kind%5 + 1
	}
	if r.Intn(3) > 0 {
		o.Act = change("", o.Inner, 0, "").Act
	}
	if r.Intn(4) > 0 && len(seen) > 0 {
		o.Ref = seen[r.Intn(len(seen))]
	}
	if r.Intn(20) == 0 {
		o.Text, o.N = strings.Repeat("x", textMost+r.Intn(2)), 1<<30+r.Intn(2)
	}
	return o
}

// history answers deeds of three peers: each is of a transaction that has seen all that its peer had, and what those had seen.
func history(r *rand.Rand, n int, kind int) []deed {
	var l []deed
	var has [4]api.Vec
	for range n {
		p := 1 + r.Intn(3)
		for q := range has {
			if r.Intn(3) == 0 {
				for k := range has[p] {
					has[p][k] = max(has[p][k], has[q][k])
				}
			}
		}
		x := tx(p, has[p][p]+1, r.Intn(4), has[p])
		for i := range 1 + r.Intn(3) {
			var seen []api.Mark
			for _, d := range l {
				if ops.Before(d.mark(), x, i+1) {
					seen = append(seen, d.mark())
				}
			}
			l = append(l, deed{x, i + 1, anyOp(r, seen, kind)})
		}
		has[p][p]++
	}
	return l
}

// ready tells whether all that a deed has seen, of a history, is among those that were done.
func ready(d deed, all []deed, done []deed) bool {
	for _, q := range all {
		is := func(d deed) bool { return d.mark() == q.mark() }
		if d.sees(q) && !slices.ContainsFunc(done, is) {
			return false
		}
	}
	return true
}

// cutOf answers a cut that all that is to come has seen: all that there may be, if nothing is.
func cutOf(left []deed) api.Vec {
	cut := everything()
	for _, d := range left {
		for p := range cut {
			cut[p] = min(cut[p], d.tx.Deps[p])
		}
	}
	return cut
}

// P13.2 to P13.4: many histories of all acts and of drops, done in many orders, each op behind all that it has seen: at each step the fields are what the document's words say, and what is read is what chapter 17 says of all that was done; folded in between by cuts that all that is to come has seen it is the same.
func TestHistories(t *testing.T) {
	for seed := range int64(250) {
		r := rand.New(rand.NewSource(seed))
		all := history(r, 2+r.Intn(9), kinds()[seed%5])
		var ends []string
		for range 4 {
			var l, below, folded []api.Field
			left, done := slices.Clone(all), []deed{}
			for len(left) > 0 {
				k := r.Intn(len(left))
				if !ready(left[k], all, done) {
					continue
				}
				l, below, folded = left[k].done(l), left[k].account(below), left[k].done(folded)
				done, left = append(done, left[k]), slices.Delete(left, k, k+1)
				if r.Intn(3) == 0 {
					cut := cutOf(left)
					want := wantFold(folded, cut)
					folded = ormap.Fold(folded, cut)
					ask(t, "Fold", folded, want)
				}
				ask(t, "so far", l, below)
				askCheck(t, l, true)
				askCheck(t, folded, true)
				want := defined(done)
				ask(t, fmt.Sprint("Read, of seed ", seed), ormap.Read(l), want)
				ask(t, fmt.Sprint("Read of what was folded, of seed ", seed), ormap.Read(folded), want)
			}
			ends = append(ends, fmt.Sprintf("%+v", l))
		}
		if ends = slices.Compact(ends); len(ends) != 1 {
			t.Errorf("seed %d: orders come to %q", seed, ends)
		}
	}
}
