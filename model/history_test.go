package model_test

import (
	"cmp"
	"fmt"
	"math/rand"
	"slices"
	"testing"

	"plexus/api"
	"plexus/model"
	"plexus/ops"
)

// deed is one op of a transaction, and its place.
type deed struct {
	tx    api.Tx
	index int
	api.Op
}

// mark answers a deed's Mark.
func (d deed) mark() api.Mark {
	return api.Mark{Dot: d.tx.Dot, Index: d.index}
}

// sees tells whether a deed has seen the one of a Mark.
func (d deed) sees(m api.Mark) bool {
	return ops.Before(m, d.tx, d.index)
}

// later tells whether a deed has the greater Time than another one, or of one Time the greater Mark.
func (d deed) later(than deed) bool {
	if d.tx.Time != than.tx.Time {
		return d.tx.Time > than.tx.Time
	}
	return ops.Less(than.mark(), d.mark())
}

// leaf is what was done to one leaf, told one by one: its deeds, and those that clear it.
type leaf struct {
	kind   int
	deeds  []deed
	clears []deed
}

// live tells whether no one that clears sees a deed.
func (f leaf) live(d deed) bool {
	for _, c := range f.clears {
		if c.sees(d.mark()) {
			return false
		}
	}
	return true
}

// overwritten tells whether another ActPut has seen a deed.
func (f leaf) overwritten(d deed) bool {
	for _, by := range f.deeds {
		if by.mark() != d.mark() && by.Act == api.ActPut && by.sees(d.mark()) {
			return true
		}
	}
	return false
}

// removed tells whether an ActDel of a deed's Text has seen it.
func (f leaf) removed(d deed) bool {
	for _, by := range f.deeds {
		if by.Act == api.ActDel && by.Text == d.Text && by.sees(d.mark()) {
			return true
		}
	}
	return false
}

// sum is the document's account of a Counter.
func (f leaf) sum() int {
	n := 0
	for _, d := range f.deeds {
		if f.live(d) {
			n += d.N
		}
	}
	return n
}

// last is the document's account of a Last.
func (f leaf) last() []string {
	var best []deed
	for _, d := range f.deeds {
		if f.live(d) && !f.overwritten(d) && (len(best) == 0 || d.later(best[0])) {
			best = []deed{d}
		}
	}
	if len(best) == 0 {
		return nil
	}
	return []string{best[0].Text}
}

// rising answers the Texts, each once, of the deeds of an act that are live, and not out.
func (f leaf) rising(act int, out func(deed) bool) []string {
	var l []string
	for _, d := range f.deeds {
		if d.Act == act && f.live(d) && !out(d) && !slices.Contains(l, d.Text) {
			l = append(l, d.Text)
		}
	}
	slices.Sort(l)
	return l
}

// barred tells whether an insertion sees an ActDel with its Ref, or one that clears and sees that.
func (f leaf) barred(d deed) bool {
	for _, by := range f.deeds {
		if by.Act == api.ActDel && by.Ref == d.Ref && d.sees(by.mark()) {
			return true
		}
	}
	for _, c := range f.clears {
		if d.sees(c.mark()) && c.sees(d.Ref) {
			return true
		}
	}
	return false
}

// counting answers the insertions that count: those of the zero Ref, and again those behind one of them, until there are no more.
func (f leaf) counting() []deed {
	counts := map[api.Mark]bool{{}: true}
	var l []deed
	for more := true; more; {
		more = false
		for _, d := range f.deeds {
			if d.Act == api.ActIns && !counts[d.mark()] && counts[d.Ref] && !f.barred(d) {
				counts[d.mark()], more = true, true
				l = append(l, d)
			}
		}
	}
	return l
}

// behind answers those of an order that stand behind a Mark, each with all behind it.
func behind(l []deed, ref api.Mark) []deed {
	var all []deed
	for _, d := range l {
		if d.Ref == ref {
			all = append(append(all, d), behind(l, d.mark())...)
		}
	}
	return all
}

// elements is the document's account of a Seq.
func (f leaf) elements() []string {
	counting := f.counting()
	slices.SortFunc(counting, func(a deed, b deed) int {
		if a.later(b) {
			return -1
		}
		return 1
	})
	var l []string
	for _, d := range behind(counting, api.Mark{}) {
		cut := func(by deed) bool { return by.Act == api.ActDel && by.Ref == d.mark() }
		if f.live(d) && !slices.ContainsFunc(f.deeds, cut) {
			l = append(l, d.Text)
		}
	}
	return l
}

// value is the document's account of a leaf's value.
func (f leaf) value() api.Value {
	switch f.kind {
	case api.Counter:
		return number(f.sum())
	case api.Last:
		return words(2, f.last()...)
	case api.Many:
		return words(3, f.rising(api.ActPut, f.overwritten)...)
	case api.Set:
		return words(4, f.rising(api.ActAdd, f.removed)...)
	}
	return words(5, f.elements()...)
}

// leafOf answers the leaf of transactions: of the field of a name with a kind, or, without a name, the object itself.
func leafOf(l []api.Tx, kind int, key string, name string, inner int) leaf {
	f := leaf{kind: kind}
	if kind == api.Map {
		f.kind = inner
	}
	for _, x := range l {
		for k, o := range x.Ops {
			switch {
			case o.Kind != kind || o.Key != key || o.Field != name || o.Inner != inner:
			case o.Act == api.ActDrop:
				f.clears = append(f.clears, deed{x, k + 1, o})
			default:
				f.deeds = append(f.deeds, deed{x, k + 1, o})
			}
		}
	}
	return f
}

// names are those of histories' fields, rising.
func names() []string {
	return []string{"f", "g"}
}

// keys are those of histories' objects, and one that no history has.
func keys() []string {
	return []string{"k", "other", "none"}
}

// account is the document's account of Read, of transactions that may be and of a kind and key that an object may have.
func account(l []api.Tx, kind int, key string) api.Value {
	if kind != api.Map {
		return leafOf(l, kind, key, "", 0).value()
	}
	v := mapOf()
	for _, name := range names() {
		for inner := api.Counter; inner <= api.Seq; inner++ {
			if f := leafOf(l, kind, key, name, inner); slices.ContainsFunc(f.deeds, f.live) {
				v.Fields = append(v.Fields, named(name, f.value()))
			}
		}
	}
	return v
}

// askAll asks Read of each object, and of one that nobody has made.
func askAll(t *testing.T, what string, l []api.Tx) {
	t.Helper()
	askCheck(t, what, l, true)
	for kind := api.Counter; kind <= api.Map; kind++ {
		for _, key := range keys() {
			askRead(t, what, l, kind, key, account(l, kind, key))
		}
	}
}

// anyOp answers an op that may be, of any act upon an object of any kind, or one of the Roster; those of a Seq mostly refer to one of these marks.
func anyOp(r *rand.Rand, marks []api.Mark) api.Op {
	leaf := 1 + r.Intn(5)
	o, _ := made(leaf, r.Intn(7)-3, string(rune('a'+r.Intn(4))))
	switch {
	case r.Intn(20) == 0:
		return roster(1+r.Intn(2), 1+r.Intn(12))
	case leaf == api.Set && r.Intn(2) == 0:
		o.Act = api.ActDel
	case leaf == api.Seq && r.Intn(6) > 0 && len(marks) > 0:
		o.Ref = marks[r.Intn(len(marks))]
		if r.Intn(5) < 2 {
			o.Act, o.Text = api.ActDel, ""
		}
	}
	if r.Intn(3) > 0 {
		o = in(names()[r.Intn(2)], o)
		if r.Intn(5) == 0 {
			o = drop(o.Field, o.Inner)
		}
	}
	return of(keys()[min(1, r.Intn(5))], o)
}

// inserted answers the marks of insertions among transactions that the op at a place of x has seen, or of all of them.
func inserted(l []api.Tx, x api.Tx, place int, all bool) []api.Mark {
	var marks []api.Mark
	for _, y := range append(slices.Clone(l), x) {
		for k, o := range y.Ops {
			m := api.Mark{Dot: y.Dot, Index: k + 1}
			if ops.Before(m, x, place) && (all || o.Act == api.ActIns) {
				marks = append(marks, m)
			}
		}
	}
	return marks
}

// filled answers transactions with ops: of the first one, of the second one, and so on, again and again, so that where some have seen each other each may refer to what the other one has made.
func filled(r *rand.Rand, l []api.Tx) []api.Tx {
	for range 1 + r.Intn(6) {
		for k := range l {
			marks := inserted(l, l[k], len(l[k].Ops)+1, r.Intn(8) == 0)
			l[k].Ops = append(l[k].Ops, anyOp(r, marks))
		}
	}
	return l
}

// causal answers transactions of four peers: each has seen all that its peer had, and sometimes less.
func causal(r *rand.Rand, n int) []api.Tx {
	var l []api.Tx
	var has [5]api.Vec
	for range n {
		p := 1 + r.Intn(4)
		for q := range has {
			for k := range has[p] {
				if r.Intn(3) == 0 {
					has[p][k] = max(has[p][k], has[q][k])
				}
			}
		}
		x := nth(p, has[p][p]+1, 1+r.Intn(4), has[p])
		if q := 1 + r.Intn(4); r.Intn(6) == 0 && x.Deps[q] > 0 {
			x.Deps[q]--
		}
		l = append(l, x)
		has[p][p]++
	}
	return filled(r, l)
}

// wild answers transactions whose Deps are any that may be: some have seen each other, some have seen what is not there, and one has no Dot.
func wild(r *rand.Rand, n int) []api.Tx {
	l := []api.Tx{{Time: 1 + r.Intn(4)}}
	for k := range n {
		l = append(l, nth(1+k%3, 1+k/3+r.Intn(2)*10, 1+r.Intn(4), api.Vec{}))
	}
	for k, x := range l {
		for p := 1; p <= 3; p++ {
			l[k].Deps[p] = r.Intn(2) * r.Intn(16)
		}
		if x.Dot.Peer > 0 {
			l[k].Deps[x.Dot.Peer] = r.Intn(x.Dot.Seq)
		}
	}
	return filled(r, l)
}

// P17.1, P17.2: many histories of all acts upon objects of every kind, of peers that have seen some of each other's, are read as the document's words say; in another order, and where some of them are not there, too.
func TestHistories(t *testing.T) {
	for seed := range int64(1500) {
		r := rand.New(rand.NewSource(seed))
		what := fmt.Sprint("seed ", seed)
		history := []func(*rand.Rand, int) []api.Tx{causal, wild}[seed%2]
		l := history(r, 1+r.Intn(8))
		askAll(t, what, l)
		r.Shuffle(len(l), func(a int, b int) { l[a], l[b] = l[b], l[a] })
		askAll(t, what+", in another order", l)
		askAll(t, what+", some of them", l[:r.Intn(len(l))])
		if t.Failed() {
			break
		}
	}
}

// story are transactions upon objects of every kind: some have seen others, some have not; they add, write, insert, remove, drop, and make again; one has no Dot.
func story() []api.Tx {
	none := api.Mark{}
	return []api.Tx{
		tx(1, 3, api.Vec{}, add(5), put(2, "a"), put(3, "a"), enter("a"), enter("b"), ins(none, "a"), ins(mk(1, 1, 6), "b"), in("f", add(1)), in("f", ins(none, "p")), in("g", enter("x"))),
		tx(2, 3, api.Vec{}, add(70), put(2, "b"), put(3, "b"), enter("c"), ins(none, "c"), in("f", add(2)), in("g", enter("y")), in("g", put(3, "m")), of("other", add(9))),
		nth(1, 2, 4, seen(1, 2), put(3, "c"), leave("a"), ins(mk(2, 1, 5), "d"), cut(mk(1, 1, 6)), drop("f", 1), drop("f", 5), drop("g", 4)),
		tx(3, 2, seen(1), add(-8), put(2, "c"), leave("b"), enter("a"), ins(mk(1, 1, 6), "e"), in("f", ins(mk(1, 1, 9), "q")), in("g", put(3, "n")), roster(1, 4)),
		tx(4, 9, api.Vec{0, 2, 1, 1}, ins(mk(1, 1, 6), "never"), ins(mk(1, 1, 7), "f"), in("f", add(30)), in("f", ins(mk(1, 1, 9), "never")), in("f", ins(mk(3, 1, 6), "r")), drop("g", 3)),
		{Time: 9, Deps: api.Vec{0, 2, 1, 1, 1}, Ops: []api.Op{add(1), leave("c"), ins(none, "g"), ins(mk(0, 0, 3), "h"), in("g", put(3, "o"))}},
	}
}

// orders hands each order of a list, from its place k on, to visit.
func orders[T any](l []T, k int, visit func([]T)) {
	if k == len(l) {
		visit(l)
		return
	}
	for i := k; i < len(l); i++ {
		l[k], l[i] = l[i], l[k]
		orders(l, k+1, visit)
		l[k], l[i] = l[i], l[k]
	}
}

// P17.1, P17.2: every order of the story's transactions, those in which one stands ahead of what it has seen among them, reads the same, which is written out.
func TestEveryOrder(t *testing.T) {
	want := []api.Value{
		number(68), words(2, "b"), words(3, "c"), words(4, "a"), words(5, "g", "h", "c", "d", "b", "f", "e"),
		mapOf(named("f", number(30)), named("f", words(5, "q", "r")), named("g", words(3, "o"))),
	}
	count, ahead := 0, 0
	orders(story(), 0, func(l []api.Tx) {
		count++
		if slices.ContainsFunc(l[1:], func(x api.Tx) bool { return ops.Before(api.Mark{Dot: x.Dot, Index: 1}, l[0], 1) }) {
			ahead++
		}
		askCheck(t, "an order", l, true)
		for _, v := range want {
			askRead(t, "an order", l, v.Kind, "k", v)
		}
		askRead(t, "an order", l, 1, "other", number(9))
		askRead(t, "an order", l, 5, "none", words(5))
	})
	if count != 720 || ahead < 300 {
		t.Errorf("%d orders, %d with one ahead of what it has seen", count, ahead)
	}
	askAll(t, "the story", story())
}

// P17.2: of each part of the story, in order and turned round, the same is read.
func TestEveryPart(t *testing.T) {
	all := story()
	for part := range 1 << len(all) {
		var l []api.Tx
		for k, x := range all {
			if part>>k&1 == 1 {
				l = append(l, x)
			}
		}
		askAll(t, fmt.Sprintf("part %b", part), l)
		slices.Reverse(l)
		askAll(t, fmt.Sprintf("part %b, turned round", part), l)
	}
}

// R4, R8: the same call answers the same, whatever was asked between.
func TestTheSameAgain(t *testing.T) {
	l := story()
	want := model.Read(l, 6, "k")
	for seed := range int64(50) {
		model.Read(wild(rand.New(rand.NewSource(seed)), 5), 6, "k")
		askRead(t, "again", l, 6, "k", want)
	}
}

// R1: many transactions upon one object of each kind are gone through in time: writes of which each has seen all ahead of it, additions of one text and of many, long chains, many fields, many removals.
func TestManyTransactions(t *testing.T) {
	const most = 1 << 14
	var l []api.Tx
	for k := range most {
		ref := mk(1, k, 3)
		if k == 0 {
			ref = api.Mark{}
		}
		l = append(l, nth(1, k+1, 1+k, api.Vec{0, k}, add(1), put(3, "x"), ins(ref, "y"), enter(fmt.Sprint(k%7)), leave(fmt.Sprint(k%7-1)), enter(fmt.Sprintf("%06d", k)), in(fmt.Sprintf("%06d", k), add(k)), of("wide", ins(api.Mark{}, "z"))))
	}
	rand.New(rand.NewSource(1)).Shuffle(len(l), func(a int, b int) { l[a], l[b] = l[b], l[a] })
	if sum, writes := model.Read(l, 1, "k"), model.Read(l, 3, "k"); !same(sum, number(most)) || !same(writes, words(3, "x")) {
		t.Error(sum, len(writes.Texts))
	}
	for _, key := range []string{"k", "wide"} {
		if n := len(model.Read(l, 5, key).Texts); n != most {
			t.Errorf("%d elements of %s", n, key)
		}
	}
	set, fields := model.Read(l, 4, "k").Texts, model.Read(l, 6, "k").Fields
	if len(set) != most+2 || len(fields) != most || !slices.IsSorted(set) {
		t.Error(len(set), len(fields))
	}
	if !slices.IsSortedFunc(fields, func(a api.Named, b api.Named) int { return cmp.Compare(a.Name, b.Name) }) || fields[most-1].Value.N != most-1 {
		t.Error("fields")
	}
}
