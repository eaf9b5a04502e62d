package store_test

import (
	"fmt"
	"math/rand"
	"slices"
	"testing"

	"plexus/api"
	"plexus/model"
	"plexus/ops"
	"plexus/store"
	"plexus/vec"
)

// deed is one op of a transaction, and its place.
type deed struct {
	tx    api.Tx
	index int
	api.Op
}

// mark answers a deed's Mark.
func (d deed) mark() api.Mark {
	return api.Mark{Dot: d.tx.Dot, Index: d.index}
}

// fieldNames are those of histories' fields, rising.
func fieldNames() []string {
	return []string{"f", "g"}
}

// objectKeys are those of histories' objects, and one that no history has.
func objectKeys() []string {
	return []string{"a", "b", "none"}
}

// askReads asks whether each object reads as layer 17 says of these transactions, one that nobody has made too.
func askReads(t *testing.T, what string, s api.Store, done []api.Tx) {
	t.Helper()
	for _, kind := range kinds() {
		for _, key := range objectKeys() {
			if got, want := store.Read(s, kind, key), model.Read(done, kind, key); !same(got, want) {
				t.Fatalf("%s: Read %d %q: %+v, want %+v, behind %+v", what, kind, key, got, want, done)
			}
		}
	}
}

// apply does a transaction that may be.
func apply(t *testing.T, s api.Store, x api.Tx) api.Store {
	t.Helper()
	got, err := store.Apply(s, x)
	if err != api.OK {
		t.Fatalf("Apply(%+v): %d", x, err)
	}
	return got
}

// first answers ops that change objects of every kind, of a key: of a map two fields.
func first(key string, n int, text string) []api.Op {
	return []api.Op{
		change(1, key, n, ""), change(2, key, 0, text), change(3, key, 0, text), change(4, key, 0, text), change(4, key, 0, "x"),
		change(5, key, 0, text), inside(key, "f", 1, n, ""), inside(key, "f", 5, 0, text), inside(key, "g", 4, 0, text),
	}
}

// insideOf answers an op upon a sequence as one upon that in the field f of the map of its key.
func insideOf(o api.Op) api.Op {
	o.Kind, o.Field, o.Inner = 6, "f", 5
	return o
}

// story are transactions of four peers upon objects of every kind and of two keys: some have not seen each other, two come behind some, and the last one has seen all; it takes away much of what was made, of one map and one set all.
func story() []api.Tx {
	return []api.Tx{
		tx(1, 1, 3, api.Vec{}, first("a", 5, "one")...),
		tx(2, 1, 2, api.Vec{}, append(first("a", 70, "two"), roster(1, 9))...),
		tx(3, 1, 2, api.Vec{}, append(first("b", -4, "three"), change(4, "a", 0, "x"))...),
		tx(1, 2, 4, api.Vec{0, 1, 1}, change(2, "a", 0, "late"), change(3, "a", 0, "late"), del("a", "x"), cut("a", mk(2, 1, 6)), behind("a", mk(1, 1, 6), "four"), drop("a", "f", 1), drop("a", "f", 5), insideOf(behind("a", mk(2, 1, 8), "never"))),
		tx(2, 2, 3, api.Vec{0, 1, 1}, change(1, "a", -75, ""), behind("a", mk(2, 1, 6), "five"), inside("a", "f", 1, 8, ""), insideOf(behind("a", mk(1, 1, 8), "six")), del("a", "one"), change(4, "a", 0, "one"), drop("a", "g", 4)),
		tx(3, 2, 5, api.Vec{0, 0, 0, 1}, change(1, "b", 4, ""), del("b", "x"), del("b", "three"), cut("b", mk(3, 1, 6)), drop("b", "f", 1), drop("b", "f", 5), drop("b", "g", 4)),
		tx(4, 1, 9, api.Vec{0, 2, 2, 2}, change(1, "a", 1, ""), change(2, "b", 0, "end"), del("a", "one"), behind("a", mk(1, 2, 5), "seven"), behind("a", mk(2, 1, 6), "never"), behind("b", mk(3, 1, 6), "never"), drop("a", "f", 1), inside("b", "f", 1, 2, ""), roster(2, 9)),
	}
}

// isReady tells whether all that a transaction has seen, of all, was done.
func isReady(x api.Tx, all []api.Tx, done []api.Tx) bool {
	for _, y := range all {
		is := func(z api.Tx) bool { return z.Dot == y.Dot }
		if vec.Has(x.Deps, y.Dot) && !slices.ContainsFunc(done, is) {
			return false
		}
	}
	return true
}

// orders hands each order of all transactions in which each comes behind all that it has seen to visit.
func orders(all []api.Tx, done []api.Tx, visit func([]api.Tx)) {
	if len(done) == len(all) {
		visit(done)
		return
	}
	for _, x := range all {
		is := func(z api.Tx) bool { return z.Dot == x.Dot }
		if !slices.ContainsFunc(done, is) && isReady(x, all, done) {
			orders(all, append(slices.Clone(done), x), visit)
		}
	}
}

// P16.3: the story's transactions may be, and what is read behind them is written out.
func TestStory(t *testing.T) {
	var s api.Store
	for _, x := range story() {
		ask(t, fmt.Sprint(x.Dot), ops.CheckTx(x), true)
		s = apply(t, s, x)
	}
	texts := func(kind int, l ...string) api.Value { return api.Value{Kind: kind, Texts: l} }
	field := func(name string, v api.Value) api.Named { return api.Named{Name: name, Value: v} }
	for _, c := range []struct {
		key  string
		want api.Value
	}{
		{"a", api.Value{Kind: 1, N: 1}}, {"a", texts(2, "late")}, {"a", texts(3, "late")}, {"a", texts(4, "two", "x")}, {"a", texts(5, "one", "four", "seven", "five")},
		{"a", api.Value{Kind: 6, Fields: []api.Named{field("f", texts(5, "six"))}}},
		{"b", api.Value{Kind: 1}}, {"b", texts(2, "end")}, {"b", texts(3, "three")}, {"b", texts(4)}, {"b", texts(5)},
		{"b", api.Value{Kind: 6, Fields: []api.Named{field("f", api.Value{Kind: 1, N: 2})}}},
		{"none", texts(5)}, {"none", api.Value{Kind: 6}},
	} {
		ask(t, "Read of "+c.key, store.Read(s, c.want.Kind, c.key), c.want)
	}
	for _, o := range s.Objects {
		ask(t, "Find", store.Find(s, o.Kind, o.Key), o)
	}
	ask(t, "a set that is Empty went", slices.ContainsFunc(s.Objects, func(o api.Object) bool { return o.Kind == 4 && o.Key == "b" }), false)
	ask(t, "how many", len(s.Objects), 11)
	ask(t, "how many behind Fold", len(store.Fold(s, everything()).Objects), 9)
}

// P16.3: transactions delivered in every order in which each comes behind all that it has seen come to one store, and what is read is what chapter 17 says, behind each.
func TestEveryOrder(t *testing.T) {
	all := story()
	var want api.Store
	count := 0
	orders(all, nil, func(l []api.Tx) {
		var s api.Store
		for k, x := range l {
			s = apply(t, s, x)
			askCheck(t, s, true)
			askReads(t, "one order", s, l[:k+1])
		}
		if count++; count == 1 {
			want = s
		}
		ask(t, "another order", s, want)
	})
	ask(t, "how many orders", count, 60)
}

// doneOf answers the vector of what was delivered.
func doneOf(l []api.Tx) api.Vec {
	var v api.Vec
	for _, x := range l {
		v[x.Dot.Peer] = max(v[x.Dot.Peer], x.Dot.Seq)
	}
	return v
}

// seenBy answers what all that are to come have seen; all that may be, if none is.
func seenBy(l []api.Tx) api.Vec {
	v := everything()
	for _, x := range l {
		v = vec.Meet(v, x.Deps)
	}
	return v
}

// cutsBelow answers cuts that are at most that one: none, all, and the parts of single peers.
func cutsBelow(most api.Vec) []api.Vec {
	l := []api.Vec{{}, most}
	for p, n := range most {
		for _, k := range []int{1, 2} {
			if n >= k {
				var v api.Vec
				v[p] = k
				l = append(l, v)
			}
		}
	}
	return l
}

// P16.3: Fold by each cut that has none, some and all of what was delivered, and that all that come later have seen, then these delivered behind it: it reads the same, now and later.
func TestFoldThenDeliver(t *testing.T) {
	all := story()
	had := map[string]int{}
	orders(all, nil, func(l []api.Tx) {
		var s api.Store
		for k := range len(l) + 1 {
			if k > 0 {
				s = apply(t, s, l[k-1])
			}
			for _, cut := range cutsBelow(seenBy(l[k:])) {
				folded := store.Fold(s, cut)
				if !same(folded, s) {
					had["made shorter"]++
				}
				switch done := doneOf(l[:k]); {
				case cut == api.Vec{}:
					had["none"]++
				case vec.Leq(done, cut):
					had["all"]++
				default:
					had["some"]++
				}
				askReads(t, "folded", folded, l[:k])
				for n := k; n < len(l); n++ {
					folded = apply(t, folded, l[n])
					askCheck(t, folded, true)
					askReads(t, fmt.Sprint("folded by ", cut), folded, l[:n+1])
				}
			}
		}
	})
	for _, what := range []string{"none", "some", "all", "made shorter"} {
		if had[what] < 50 {
			t.Errorf("%d cuts have %s", had[what], what)
		}
	}
}

// seqOp answers an op upon a sequence: mostly behind an element that it has seen, or by which that goes.
func seqOp(r *rand.Rand, o api.Op, seen []deed) api.Op {
	var same, any []api.Mark
	for _, d := range seen {
		any = append(any, d.mark())
		if d.Kind == o.Kind && d.Key == o.Key && d.Field == o.Field && d.Inner == o.Inner && d.Act == api.ActIns {
			same = append(same, d.mark())
		}
	}
	switch k := r.Intn(10); {
	case k < 8 && len(same) > 0:
		o.Ref = same[r.Intn(len(same))]
	case k == 8 && len(any) > 0:
		o.Ref = any[r.Intn(len(any))]
	}
	if o.Ref != (api.Mark{}) && r.Intn(5) < 2 {
		o.Act, o.Text = api.ActDel, ""
	}
	return o
}

// anyOp answers an op that may be, of any act upon an object of any kind, or one of the roster.
func anyOp(r *rand.Rand, seen []deed) api.Op {
	kind, key, text := 1+r.Intn(7), objectKeys()[r.Intn(2)], string(rune('a'+r.Intn(4)))
	if kind == api.Roster {
		return roster(1+r.Intn(2), 1+r.Intn(12))
	}
	o := change(kind, key, r.Intn(7)-3, text)
	leaf := kind
	if kind == api.Map {
		name := fieldNames()[r.Intn(2)]
		leaf = 1 + r.Intn(5)
		if r.Intn(4) == 0 {
			return drop(key, name, leaf)
		}
		o = inside(key, name, leaf, r.Intn(7)-3, text)
	}
	switch {
	case leaf == api.Seq:
		return seqOp(r, o, seen)
	case leaf == api.Set && r.Intn(2) == 0:
		o.Act = api.ActDel
	}
	return o
}

// history answers transactions of three peers that have seen what their peer had; if it is loose, sometimes less, so that what a transaction has seen may have seen more than it.
func history(r *rand.Rand, n int, loose bool) []api.Tx {
	var l []api.Tx
	var has [4]api.Vec
	for range n {
		p := 1 + r.Intn(3)
		for q := range has {
			if r.Intn(3) == 0 {
				has[p] = vec.Join(has[p], has[q])
			}
		}
		x := tx(p, has[p][p]+1, 1+r.Intn(4), has[p])
		if q := 1 + r.Intn(3); loose && r.Intn(3) == 0 && x.Deps[q] > 0 {
			x.Deps[q] = r.Intn(x.Deps[q])
		}
		for range 1 + r.Intn(6) {
			var seen []deed
			for _, y := range append(l, x) {
				for k, o := range y.Ops {
					if ops.Before(api.Mark{Dot: y.Dot, Index: k + 1}, x, len(x.Ops)+1) {
						seen = append(seen, deed{y, k + 1, o})
					}
				}
			}
			x.Ops = append(x.Ops, anyOp(r, seen))
		}
		l = append(l, x)
		has[p][p]++
	}
	return l
}

// P16.3: many histories of all acts upon objects of every kind, delivered in many orders, each transaction behind all that it has seen: at each step the store Checks, is what the document's words say, and reads as chapter 17 says; folded again and again by cuts that all that is to come has seen, it reads the same; all orders come to one store.
func TestHistories(t *testing.T) {
	for seed := range int64(400) {
		r := rand.New(rand.NewSource(seed))
		all := history(r, 2+r.Intn(9), seed%4 == 3)
		var want api.Store
		for turn := range 4 {
			var s, folded api.Store
			left, done := slices.Clone(all), []api.Tx{}
			for len(left) > 0 {
				k := r.Intn(len(left))
				x := left[k]
				if !isReady(x, all, done) {
					continue
				}
				wanted, _ := wantApply(s, x)
				s, folded = apply(t, s, x), apply(t, folded, x)
				done, left = append(done, x), slices.Delete(left, k, k+1)
				ask(t, "so far", s, wanted)
				if r.Intn(3) == 0 {
					cut := vec.Meet(seenBy(left), doneOf(done))
					wanted = wantFold(folded, cut)
					folded = store.Fold(folded, cut)
					ask(t, "Fold", folded, wanted)
				}
				askCheck(t, s, true)
				askCheck(t, folded, true)
				askReads(t, fmt.Sprint("seed ", seed), s, done)
				askReads(t, fmt.Sprint("folded, of seed ", seed), folded, done)
			}
			if turn == 0 {
				want = s
			}
			ask(t, fmt.Sprint("another order, of seed ", seed), s, want)
		}
	}
}

// P16.3: a client's transaction that is open, applied behind what it has seen, is read as chapter 17 says of that and its own ops.
func TestOpenBehindOthers(t *testing.T) {
	for seed := range int64(100) {
		r := rand.New(rand.NewSource(seed))
		all := history(r, 2+r.Intn(6), false)
		var s api.Store
		for _, x := range all {
			s = apply(t, s, x)
		}
		x := history(r, 1, false)[0]
		x.Dot, x.Deps = api.Dot{}, doneOf(all)
		x.Ops = nil
		for range 1 + r.Intn(16) {
			var seen []deed
			for _, y := range append(slices.Clone(all), x) {
				for k, o := range y.Ops {
					seen = append(seen, deed{y, k + 1, o})
				}
			}
			x.Ops = append(x.Ops, anyOp(r, seen))
		}
		ask(t, "may be", ops.CheckOpen(x), true)
		askReads(t, "open", apply(t, s, x), append(slices.Clone(all), x))
		askReads(t, "open, of what was folded", apply(t, store.Fold(s, x.Deps), x), append(slices.Clone(all), x))
	}
}
