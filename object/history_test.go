package object_test

import (
	"fmt"
	"math/rand"
	"slices"
	"strings"
	"testing"

	"plexus/api"
	"plexus/cell"
	"plexus/object"
	"plexus/ops"
	"plexus/ormap"
)

// deed is one op of a history: the transaction that it is of, and its place.
type deed struct {
	tx    api.Tx
	index int
}

// op answers a deed's op.
func (d deed) op() api.Op {
	return d.tx.Ops[d.index-1]
}

// mark answers a deed's Mark.
func (d deed) mark() api.Mark {
	return api.Mark{Dot: d.tx.Dot, Index: d.index}
}

// sees tells whether a deed has seen another one.
func (d deed) sees(other deed) bool {
	return ops.Before(other.mark(), d.tx, d.index)
}

// orders hands each order of a list, from its place k on, to visit.
func orders[T any](l []T, k int, visit func([]T)) {
	if k == len(l) {
		visit(l)
		return
	}
	for i := k; i < len(l); i++ {
		l[k], l[i] = l[i], l[k]
		orders(l, k+1, visit)
		l[k], l[i] = l[i], l[k]
	}
}

// by answers the first deed of a peer that has seen nothing.
func by(peer int, time int, o api.Op) deed {
	return deed{tx(peer, 1, time, api.Vec{}, o), 1}
}

// blindToLeaf are deeds of six peers that have not seen each other: three change the leaf k of a kind, the others an object of another key, one of another kind, and by an op that CheckOp refuses.
func blindToLeaf(kind int) []deed {
	other := change(kind, 7, "other")
	other.Key = "kk"
	refused := change(kind, 9, "refused")
	refused.Field = "f"
	return []deed{
		by(2, 9, change(kind, 1, "x")), by(3, 4, change(kind, -20, "b")), by(4, 1, change(kind, 400, "c")),
		by(5, 2, other), by(6, 2, change(kind%5+1, 5, "u")), by(12, 2, refused),
	}
}

// blindReads is what is read of a leaf behind all blind deeds.
func blindReads(kind int) api.Value {
	switch kind {
	case api.Counter:
		return api.Value{Kind: 1, N: 381}
	case api.Last:
		return api.Value{Kind: 2, Texts: []string{"x"}}
	case api.Seq:
		return api.Value{Kind: 5, Texts: []string{"x", "b", "c"}}
	}
	return api.Value{Kind: kind, Texts: []string{"b", "c", "x"}}
}

// askLeaf asks all that is told of an object that is a leaf with that Cell.
func askLeaf(t *testing.T, o api.Object, c api.Cell) {
	t.Helper()
	ask(t, "the object", o, leafOf(c))
	ask(t, "Leaf", object.Leaf(o, "f", 6), c)
	ask(t, "Read", object.Read(o), cell.Read(c))
	askEmpty(t, o, cell.Empty(c))
	askCheck(t, o, true)
}

// askMap asks all that is told of an object that is a map with these Fields.
func askMap(t *testing.T, o api.Object, l []api.Field) {
	t.Helper()
	ask(t, "the object", o, mapOf(l...))
	ask(t, "Read", object.Read(o), ormap.Read(l))
	askEmpty(t, o, len(l) == 0)
	askCheck(t, o, true)
	for _, f := range l {
		ask(t, "Leaf", object.Leaf(o, f.Name, f.Cell.Kind), f.Cell)
	}
}

// P14.1 to P14.3: ops of several peers that have not seen each other, in every order, upon leaves of every kind, then Folds by cuts that have none, some and all: the order is nothing, and each is layer 12's.
func TestEveryOrderOfLeaves(t *testing.T) {
	count := 0
	for _, kind := range leaves() {
		first := newOf(kind)
		orders(blindToLeaf(kind), 0, func(l []deed) {
			got, c := newOf(kind), fresh(kind)
			for _, d := range l {
				got = object.Do(got, d.tx, d.index)
				if d.tx.Dot.Peer <= 4 {
					c = cell.Do(c, d.tx, d.index, d.op())
				}
				askLeaf(t, got, c)
			}
			for _, cut := range []api.Vec{{}, {0, 0, 1, 1}, {0, 0, 1, 1, 1, 1, 1, 0, 0, 0, 0, 0, 1}} {
				folded := object.Fold(got, cut)
				askLeaf(t, folded, cell.Fold(c, cut))
				ask(t, "Read of what was folded", object.Read(folded), blindReads(kind))
			}
			if count++; object.Empty(first) {
				first = got
			}
			ask(t, "another order", got, first)
		})
		ask(t, "Read", object.Read(first), blindReads(kind))
	}
	if count != 3600 {
		t.Error(count, "orders")
	}
}

// blindToMap are deeds of five peers that have not seen each other: three change the field f of a kind, the others one of the same name and the next kind, and one of another name.
func blindToMap(kind int) []deed {
	return []deed{
		by(2, 9, inside("f", kind, 1, "x")), by(3, 4, inside("f", kind, -20, "b")), by(4, 1, inside("f", kind, 400, "c")),
		by(5, 2, inside("f", kind%5+1, 7, "t")), by(6, 2, inside("g", kind, 8, "u")),
	}
}

// only answers what is read of a leaf that the op of N 400 and Text c alone changed.
func only(kind int) api.Value {
	if kind == api.Counter {
		return api.Value{Kind: 1, N: 400}
	}
	return api.Value{Kind: kind, Texts: []string{"c"}}
}

// readOf answers the value of the field f of a kind, if it is read.
func readOf(o api.Object, kind int) (api.Value, bool) {
	for _, f := range object.Read(o).Fields {
		if f.Name == "f" && f.Value.Kind == kind {
			return f.Value, true
		}
	}
	return api.Value{}, false
}

// P14.1 to P14.3: ops of several peers that have not seen each other, in every order, upon fields of every kind, then drops by one that has seen all, some and none of them, and Folds: the order is nothing, and each is layer 13's.
func TestEveryOrderOfMaps(t *testing.T) {
	for _, kind := range leaves() {
		var first api.Object
		orders(blindToMap(kind), 0, func(l []deed) {
			got, fields := mapOf(), []api.Field(nil)
			for _, d := range l {
				got = object.Do(got, d.tx, d.index)
				fields = ormap.Do(fields, d.tx, d.index, d.op())
				askMap(t, got, fields)
			}
			askDropped(t, got, kind)
			if first.Kind == 0 {
				first = got
			}
			ask(t, "another order", got, first)
		})
		v, _ := readOf(first, kind)
		ask(t, "Read", v, blindReads(kind))
	}
}

// askDropped asks what is left of a map behind a drop of its field f of a kind, and behind Folds of that.
func askDropped(t *testing.T, o api.Object, kind int) {
	t.Helper()
	none, some, all := api.Vec{}, api.Vec{0, 0, 1, 1}, api.Vec{0, 0, 1, 1, 1, 1, 1}
	for _, deps := range []api.Vec{none, some, all} {
		x := tx(7, 1, 10, deps, drop("f", kind))
		dropped := object.Do(o, x, 1)
		askMap(t, dropped, ormap.Drop(o.Fields, x, 1, "f", kind))
		askReads(t, dropped, kind, deps)
		for _, cut := range []api.Vec{none, some, all, everything()} {
			folded := object.Fold(dropped, cut)
			askMap(t, folded, ormap.Fold(dropped.Fields, cut))
			askReads(t, folded, kind, deps)
		}
	}
}

// askReads asks what is read of the field f of a kind behind a drop by one that had seen deps.
func askReads(t *testing.T, o api.Object, kind int, deps api.Vec) {
	t.Helper()
	v, found := readOf(o, kind)
	switch deps {
	case api.Vec{}:
		ask(t, "dropped by one that has seen none", v, blindReads(kind))
	case api.Vec{0, 0, 1, 1}:
		ask(t, "dropped by one that has seen some", v, only(kind))
	default:
		ask(t, "dropped by one that has seen all", found, false)
	}
}

// anyOp answers an op of any act upon an object of that kind, or sometimes of another one or another key, of few numbers and texts, some beyond what may be, and often with the mark of an op that it has seen.
func anyOp(r *rand.Rand, seen []api.Mark, kind int) api.Op {
	o := change(kind, r.Intn(9)-4, string(rune('a'+r.Intn(4))))
	if kind == api.Map {
		o = inside([]string{"a", "ab", "b"}[r.Intn(3)], 1+r.Intn(5), r.Intn(9)-4, string(rune('a'+r.Intn(4))))
	}
	switch r.Intn(12) {
	case 0:
		o.Act = r.Intn(7)
	case 1:
		o.Key = "kk"
	case 2:
		o.Kind = 1 + r.Intn(7)
	case 3:
		o.Text, o.N = strings.Repeat("x", textMost+r.Intn(2)), 1<<30+r.Intn(2)
	case 4, 5, 6:
		if kind == api.Map {
			return drop(o.Field, o.Inner)
		}
		fallthrough
	case 7:
		// An element, or a text, is taken away.
		if o.Act == api.ActIns {
			o.Text = ""
		}
		if o.Act == api.ActIns || o.Act == api.ActAdd && o.Text != "" {
			o.Act = api.ActDel
		}
	}
	if isSeq := o.Kind == 5 || o.Inner == 5; isSeq && len(seen) > 0 && (o.Act == api.ActDel || r.Intn(3) > 0) {
		o.Ref = seen[r.Intn(len(seen))]
	}
	return o
}

// history answers deeds of three peers: each is of a transaction that has seen all that its peer had, and what those had seen.
func history(r *rand.Rand, n int, kind int) []deed {
	var l []deed
	var has [4]api.Vec
	for range n {
		p := 1 + r.Intn(3)
		for q := range has {
			if r.Intn(3) == 0 {
				for k := range has[p] {
					has[p][k] = max(has[p][k], has[q][k])
				}
			}
		}
		x := tx(p, has[p][p]+1, r.Intn(4), has[p])
		count := 1 + r.Intn(3)
		for i := range count {
			var seen []api.Mark
			for _, d := range l {
				if ops.Before(d.mark(), x, i+1) {
					seen = append(seen, d.mark())
				}
			}
			x.Ops = append(x.Ops, anyOp(r, seen, kind))
		}
		for i := range count {
			l = append(l, deed{x, i + 1})
		}
		has[p][p]++
	}
	return l
}

// ready tells whether all that a deed has seen, of a history, is among those that were done.
func ready(d deed, all []deed, done []deed) bool {
	for _, q := range all {
		is := func(d deed) bool { return d.mark() == q.mark() }
		if d.sees(q) && !slices.ContainsFunc(done, is) {
			return false
		}
	}
	return true
}

// cutOf answers a cut that all that is to come has seen: all that there may be, if nothing is.
func cutOf(left []deed) api.Vec {
	cut := everything()
	for _, d := range left {
		for p := range cut {
			cut[p] = min(cut[p], d.tx.Deps[p])
		}
	}
	return cut
}

// P14.2, P14.3: many histories of all acts upon objects of every kind, done in many orders, each op behind all that it has seen: at each step the object Checks, and is what the document's words say; folded in between by cuts that all that is to come has seen, it reads the same; all orders come to the same.
func TestHistories(t *testing.T) {
	for seed := range int64(300) {
		r := rand.New(rand.NewSource(seed))
		kind := kinds()[seed%6]
		all := history(r, 2+r.Intn(9), kind)
		var ends []string
		for range 4 {
			got, folded := newOf(kind), newOf(kind)
			left, done := slices.Clone(all), []deed{}
			for len(left) > 0 {
				k := r.Intn(len(left))
				d := left[k]
				if !ready(d, all, done) {
					continue
				}
				want := wantDo(got, d.tx, d.index)
				got, folded = object.Do(got, d.tx, d.index), object.Do(folded, d.tx, d.index)
				done, left = append(done, d), slices.Delete(left, k, k+1)
				if r.Intn(3) == 0 {
					cut := cutOf(left)
					wanted := wantFold(folded, cut)
					folded = object.Fold(folded, cut)
					ask(t, "Fold", folded, wanted)
				}
				ask(t, "so far", got, want)
				askCheck(t, got, true)
				askCheck(t, folded, true)
				ask(t, fmt.Sprint("Read of what was folded, of seed ", seed), object.Read(folded), object.Read(got))
			}
			ends = append(ends, fmt.Sprintf("%+v", got))
		}
		if ends = slices.Compact(ends); len(ends) != 1 {
			t.Errorf("seed %d: orders come to %q", seed, ends)
		}
	}
}
