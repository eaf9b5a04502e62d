package store_test

import (
	"fmt"
	"math"
	"reflect"
	"slices"
	"strings"
	"testing"

	"plexus/api"
	"plexus/object"
	"plexus/ops"
	"plexus/store"
)

// turned answers an object that is the same, but for what turn does to it.
func turned(o api.Object, turn func(*api.Object)) api.Object {
	turn(&o)
	return o
}

// wrongCells are objects of a kind and key that do not Check by their Cell alone, or by its not being their Kind's.
func wrongCells(kind int, key string) []api.Object {
	var l []api.Object
	for _, o := range []api.Object{hollow(kind, key), thing(kind, key)} {
		for _, other := range append(kinds(), strangers()...) {
			if other != o.Cell.Kind {
				l = append(l, turned(o, func(o *api.Object) { o.Cell.Kind = other }))
			}
		}
		l = append(l,
			turned(o, func(o *api.Object) { o.Cell.Base = 1<<60 + 1 }),
			turned(o, func(o *api.Object) { o.Cell.Amounts = []api.Amount{{}} }),
			turned(o, func(o *api.Object) { o.Cell.Writes = []api.Write{{}} }),
			turned(o, func(o *api.Object) { o.Cell.Members = []api.Member{{}} }),
			turned(o, func(o *api.Object) { o.Cell.Elems = []api.Elem{{}} }))
	}
	return l
}

// wrongFields are objects of a kind and key that do not Check by their Fields: a leaf has none, and a map's rise, and each may be.
func wrongFields(kind int, key string) []api.Object {
	f := api.Field{Name: "f", Base: true, Cell: full(2)}
	g := api.Field{Name: "g", Base: true, Cell: full(2)}
	lists := [][]api.Field{
		{{}}, {g, f}, {f, f}, {{Name: "", Base: true, Cell: full(2)}}, {{Name: strings.Repeat("f", 65), Base: true, Cell: full(2)}},
		{{Name: "f", Cell: api.Cell{Kind: 2}}}, {{Name: "f", Base: true}}, {{Name: "f", Base: true, Cell: api.Cell{Kind: 6}}}, {{Name: "f", Base: true, Cell: api.Cell{Kind: 2, Base: 1}}},
		{{Name: "f", Marks: []api.Mark{{}}, Cell: full(2)}}, {{Name: "f", Marks: []api.Mark{mk(2, 1, 1), mk(1, 1, 1)}, Cell: full(2)}},
	}
	if kind != api.Map {
		lists = append(lists, []api.Field{f}, []api.Field{f, g})
	}
	var l []api.Object
	for _, fields := range lists {
		l = append(l, turned(hollow(kind, key), func(o *api.Object) { o.Fields = fields }), turned(thing(kind, key), func(o *api.Object) { o.Fields = fields }))
	}
	return l
}

// wrongObjects are objects that do not Check, for each reason of chapter 14; all but those whose Kind or Key may not be are of the kinds from 1 to 6 and of the key k.
func wrongObjects() []api.Object {
	l := []api.Object{{}, {Key: "k"}}
	for _, kind := range kinds() {
		l = append(append(l, wrongCells(kind, "k")...), wrongFields(kind, "k")...)
		for _, n := range []int{0, 65, 1000} {
			l = append(l, hollow(kind, strings.Repeat("k", n)), thing(kind, strings.Repeat("k", n)))
		}
	}
	for _, kind := range strangers() {
		l = append(l, api.Object{Kind: kind, Key: "k"}, api.Object{Kind: kind, Key: "k", Cell: api.Cell{Kind: kind}}, api.Object{Kind: kind, Key: "k", Cell: full(1)}, api.Object{Kind: kind, Key: "k", Fields: thing(6, "k").Fields})
	}
	return l
}

// among answers stores with an object at the first place, in the middle, at the last one, and alone, of which all others may be there with it.
func among(o api.Object) []api.Store {
	var below, above []api.Object
	for _, p := range stocked("\x00", "\xff").Objects {
		if p.Kind < o.Kind || p.Kind == o.Kind && p.Key < o.Key {
			below = append(below, p)
		} else {
			above = append(above, p)
		}
	}
	one := []api.Object{o}
	return []api.Store{storeOf(o), storeOf(slices.Concat(one, above)...), storeOf(slices.Concat(below, one)...), storeOf(slices.Concat(below, one, above)...)}
}

// wrong are stores that do not Check: by an object that does not, by one that is Empty, by the order of two.
func wrong() []api.Store {
	var l []api.Store
	for k, o := range wrongObjects() {
		l = append(l, among(o)[k%4])
	}
	for _, kind := range kinds() {
		l = append(l, among(hollow(kind, "k"))...)
	}
	all := stocked("a", "b").Objects
	for k := range len(all) - 1 {
		s := slices.Clone(all)
		s[k], s[k+1] = s[k+1], s[k]
		l = append(l, storeOf(s...), storeOf(s[k:k+2]...), storeOf(slices.Insert(slices.Clone(all), k, all[k])...), storeOf(all[k], all[k]))
	}
	return append(l, storeOf(all[11], all[0]), storeOf(append(slices.Clone(all), all[0])...), storeOf(api.Object{}, api.Object{}))
}

// P16.1: what may not be, for each reason, wherever it stands.
func TestCheckOfWrong(t *testing.T) {
	for _, o := range wrongObjects() {
		if object.Check(o) {
			t.Errorf("%+v may be", o)
		}
		for _, s := range among(o) {
			askCheck(t, s, false)
		}
	}
	for _, s := range wrong() {
		askCheck(t, s, false)
		askCheck(t, roomy(s), false)
	}
}

// someOps are ops upon objects of every kind that stand in a store, and upon one of each kind that does not, and one of the roster.
func someOps(s api.Store) []api.Op {
	l := []api.Op{roster(1, 2)}
	for _, kind := range kinds() {
		l = append(l, opsOf(kind, "k")[0], change(kind, "\x00", 7, "t"))
	}
	for _, o := range s.Objects {
		l = append(l, change(o.Kind, o.Key, 7, "t"))
	}
	return l
}

// P16.1: calls of a store that does not Check answer it as it is, Find and Read zero, Apply ErrForm beside it, whatever else is handed in.
func TestCallsOfWrong(t *testing.T) {
	for _, s := range wrong() {
		l := someOps(s)
		x := tx(3, 1, 6, api.Vec{0, 1, 1}, l...)
		for i := -1; i < len(l)+2; i++ {
			ask(t, "Do", store.Do(s, x, i), s)
		}
		for _, op := range append(l, api.Op{}) {
			askApply(t, s, tx(3, 1, 6, api.Vec{0, 1, 1}, op), s, 3)
			askApply(t, s, api.Tx{Time: 1, Ops: []api.Op{op}}, s, 3)
		}
		for _, x := range []api.Tx{{}, {Time: 1}, x} {
			askApply(t, s, x, s, 3)
		}
		for _, cut := range cuts() {
			ask(t, "Fold", store.Fold(s, cut), s)
		}
		for _, kind := range append(kinds(), 0, 7) {
			for _, key := range []string{"", "\x00", "a", "b", "k", "\xff", "new"} {
				ask(t, "Find", store.Find(s, kind, key), api.Object{})
				ask(t, "Read", store.Read(s, kind, key), api.Value{})
			}
		}
		for _, o := range s.Objects {
			ask(t, "Find", store.Find(s, o.Kind, o.Key), api.Object{})
			ask(t, "Read", store.Read(s, o.Kind, o.Key), api.Value{})
		}
	}
}

// ends are numbers at the ends of what there is, and about 0.
func ends() []int {
	return []int{math.MinInt, -1, 0, 1, math.MaxInt}
}

// wrongTxs are transactions that neither CheckTx nor CheckOpen takes, for each reason of chapter 7, but for ops that CheckOp refuses.
func wrongTxs() map[string][]api.Tx {
	good := tx(3, 2, 6, api.Vec{0, 1, 1, 1}, change(1, "a", 7, ""), change(5, "a", 0, "t"), behind("a", mk(1, 1, 1), "u"))
	l := map[string][]api.Tx{}
	turn := func(why string, x api.Tx, turn func(*api.Tx)) {
		x.Ops = slices.Clone(x.Ops)
		turn(&x)
		l[why] = append(l[why], x)
	}
	for _, n := range []int{math.MinInt, -1, 0, 13, 14, math.MaxInt} {
		turn("no peer", good, func(x *api.Tx) { x.Dot.Peer = n })
	}
	for _, n := range []int{math.MinInt, -1, 0, 1<<20 + 1, math.MaxInt} {
		turn("no number", good, func(x *api.Tx) { x.Dot.Seq = n })
	}
	for _, n := range []int{2, 3, 1 << 20} {
		turn("it has seen itself", good, func(x *api.Tx) { x.Deps[3] = n })
	}
	turn("no ops", good, func(x *api.Tx) { x.Ops = nil })
	for _, dot := range []api.Dot{good.Dot, {}} {
		x := good
		x.Dot = dot
		for _, n := range []int{math.MinInt, -1, 1, math.MaxInt} {
			turn("it has seen somewhat of 0", x, func(x *api.Tx) { x.Deps[0] = n })
		}
		for _, n := range []int{math.MinInt, -1, 1<<20 + 1, math.MaxInt} {
			turn("what it has seen may not be", x, func(x *api.Tx) { x.Deps[5] = n })
			turn("what it has seen may not be", x, func(x *api.Tx) { x.Deps[12] = n })
		}
		for _, n := range []int{math.MinInt, -1, 0, 1<<40 + 1, math.MaxInt} {
			turn("no time", x, func(x *api.Tx) { x.Time = n })
		}
		for _, n := range []int{17, 18, 100} {
			turn("too many ops", x, func(x *api.Tx) { x.Ops = slices.Repeat(x.Ops[:1], n) })
		}
		for _, m := range []api.Mark{mk(1, 2, 1), mk(2, 2, 1), mk(4, 1, 1), mk(3, 3, 1), {Dot: dot, Index: 3}, {Dot: dot, Index: 4}, {Dot: dot, Index: 16}} {
			turn("a Ref that it has not seen", x, func(x *api.Tx) { x.Ops[2].Ref = m })
			turn("a Ref that it has not seen", x, func(x *api.Tx) { x.Ops[2] = cut("a", m) })
		}
	}
	turn("a Ref of one with no name", good, func(x *api.Tx) { x.Ops[2].Ref = mk(0, 0, 1) })
	turn("a Ref of one with another name", good, func(x *api.Tx) { x.Dot, x.Ops[2].Ref = api.Dot{}, mk(3, 2, 1) })
	return l
}

// P16.2: Apply of a transaction that neither CheckTx nor CheckOpen takes: ErrForm, and no store beside it.
func TestApplyOfWrong(t *testing.T) {
	for why, l := range wrongTxs() {
		for _, x := range l {
			if ops.CheckTx(x) || ops.CheckOpen(x) {
				t.Errorf("%s: %+v may be", why, x)
			}
			for _, s := range []api.Store{{}, stocked("a", "b"), storeOf(thing(5, "a"))} {
				askApply(t, s, x, api.Store{}, 3)
			}
			s := storeOf(thing(5, "b"), thing(5, "a"))
			askApply(t, s, x, s, 3)
		}
	}
	for _, x := range []api.Tx{{}, {Ops: []api.Op{change(1, "a", 7, "")}}, {Dot: api.Dot{Peer: 1, Seq: 1}}} {
		askApply(t, stocked("a"), x, api.Store{}, 3)
	}
}

// P16.2: Apply of transactions at the ends of what chapter 7 takes.
func TestApplyAtTheEnds(t *testing.T) {
	op := change(1, "a", 7, "")
	most := everything()
	most[12] = 1<<20 - 1
	for _, x := range []api.Tx{
		tx(1, 1, 1, api.Vec{}, op), tx(12, 1<<20, 1<<40, most, op), tx(1, 1, 1, api.Vec{}, slices.Repeat([]api.Op{op}, 16)...),
		{Time: 1, Ops: []api.Op{op}}, {Time: 1 << 40, Deps: everything(), Ops: slices.Repeat([]api.Op{op}, 16)},
		tx(3, 2, 6, api.Vec{}, change(1, "a", 1<<30, ""), change(1, "a", -1<<30, ""), change(2, strings.Repeat("k", 64), 0, strings.Repeat("t", 64)), change(4, "k", 0, "")),
	} {
		for _, s := range []api.Store{{}, stocked("b", "c")} {
			want, err := wantApply(s, x)
			ask(t, "the error", err, api.OK)
			askApply(t, s, x, want, 0)
			got, _ := store.Apply(s, x)
			askCheck(t, got, true)
			added := slices.DeleteFunc(slices.Clone(x.Ops), func(o api.Op) bool { return o.Kind != 1 })
			ask(t, "how many", len(store.Find(got, 1, "a").Cell.Amounts), len(added))
		}
	}
}

// roomy answers a value that is the same, of new memory, each list with some room behind its end.
func roomy[T any](v T) T {
	return deep(reflect.ValueOf(v)).Interface().(T)
}

// deep answers a value that is the same, of new memory, each list with some room behind its end.
func deep(v reflect.Value) reflect.Value {
	made := v
	switch v.Kind() {
	case reflect.Slice:
		made = reflect.MakeSlice(v.Type(), v.Len(), v.Len()+3)
		for k := range v.Len() {
			made.Index(k).Set(deep(v.Index(k)))
		}
	case reflect.Struct:
		made = reflect.New(v.Type()).Elem()
		for k := range v.NumField() {
			made.Field(k).Set(deep(v.Field(k)))
		}
	}
	return made
}

// lists answers all lists of a value, inner ones too, each with the room behind its end.
func lists(v reflect.Value) []reflect.Value {
	var all []reflect.Value
	switch v.Kind() {
	case reflect.Slice:
		v = v.Slice(0, v.Cap())
		all = append(all, v)
		for k := range v.Len() {
			all = append(all, lists(v.Index(k))...)
		}
	case reflect.Struct:
		for k := range v.NumField() {
			all = append(all, lists(v.Field(k))...)
		}
	}
	return all
}

// image tells all that a value's lists hold, and the room behind their ends.
func image(v any) string {
	var b strings.Builder
	for _, l := range lists(reflect.ValueOf(v)) {
		fmt.Fprintf(&b, "%+v\n", l)
	}
	return b.String()
}

// span is the memory of a list: where it begins, and where it ends.
type span struct {
	from uintptr
	to   uintptr
	list reflect.Value
}

// askApart asks whether no two of all these values' lists have memory in common.
func askApart(t *testing.T, values ...any) {
	t.Helper()
	var all []span
	for _, v := range values {
		for _, l := range lists(reflect.ValueOf(v)) {
			if size := uintptr(l.Cap()) * l.Type().Elem().Size(); size > 0 {
				all = append(all, span{l.Pointer(), l.Pointer() + size, l})
			}
		}
	}
	slices.SortFunc(all, func(a span, b span) int {
		if a.from < b.from {
			return -1
		}
		return 1
	})
	for k := range len(all) - 1 {
		if all[k].to > all[k+1].from {
			t.Fatalf("%+v and %+v share memory, of %+v", all[k].list, all[k+1].list, values)
		}
	}
}

// calls are calls of each function that answers a store: with ops that change, make and take away objects, or do nothing.
func calls() []func(api.Store) api.Store {
	l := []api.Op{
		change(1, "a", 7, ""), change(1, "\x00", 7, ""), change(6, "zz", 7, ""), change(4, "k", 0, "t"), del("k", "x"), del("a", "b"), del("new", "b"), cut("a", mk(1, 1, 1)),
		change(5, "k", 0, "t"), drop("a", "f", 4), drop("k", "f", 2), inside("a", "f", 4, 0, "t"), roster(1, 2), {}, change(7, "a", 7, ""), change(3, strings.Repeat("k", 65), 0, "t"),
	}
	var all []func(api.Store) api.Store
	for _, deps := range []api.Vec{{}, {0, 1}, {0, 1, 1}, everything(), {9, 1, math.MaxInt, -4}} {
		for _, x := range []api.Tx{tx(3, 1, 6, deps, l...), {Time: 6, Deps: deps, Ops: l[:13]}, tx(3, 1, 6, deps, l[:13]...), {Time: 6, Deps: deps}, {Deps: deps}} {
			for _, i := range []int{-1, 0, 1, 2, 3, 4, 5, 6, 7, 8, 9, 10, 11, 12, 13, 14, 15, 16, 17, math.MinInt, math.MaxInt} {
				all = append(all, func(s api.Store) api.Store { return store.Do(s, x, i) })
			}
			all = append(all, func(s api.Store) api.Store {
				s, _ = store.Apply(s, x)
				return s
			})
		}
		all = append(all, func(s api.Store) api.Store { return store.Fold(s, deps) })
	}
	return all
}

// shapes are stores that Check and stores that do not, with things in all lists.
func shapes() []api.Store {
	every := api.Cell{Kind: 1, Amounts: full(1).Amounts, Writes: full(2).Writes, Members: full(4).Members, Elems: passing(5, "k").Cell.Elems}
	return []api.Store{
		{}, stocked("a"), stocked("\x01", "k"), storeOf(alone(4, "k"), alone(6, "k")), storeOf(passing(1, "k"), thing(1, "l"), passing(5, "k"), passing(6, "k")),
		storeOf(thing(6, "a"), thing(1, "a")), storeOf(thing(6, "a"), thing(6, "a")), storeOf(hollow(1, "a"), thing(4, "a")), storeOf(api.Object{}, thing(5, "a")),
		storeOf(api.Object{Kind: 1, Key: "a", Cell: every, Fields: thing(6, "a").Fields}),
	}
}

// R3: an argument is as it was behind each call, its inner lists and the room behind all ends too; an answer shares no memory with it, nor with another answer, and no two of its lists do.
func TestArgumentsAndAnswers(t *testing.T) {
	for _, s := range shapes() {
		given := roomy(s)
		was := image(given)
		for _, call := range calls() {
			first, second := call(given), call(given)
			ask(t, "the other answer", second, first)
			if image(given) != was {
				t.Fatalf("the argument: %s, was %s", image(given), was)
			}
			askApart(t, given, first, second)
		}
		ask(t, "the argument", given, s)
	}
}

// R3: a store that is handed in with one list in several places is answered with several.
func TestOneListTwice(t *testing.T) {
	a, b, m := thing(4, "a"), thing(4, "b"), thing(6, "a")
	b.Cell.Members = a.Cell.Members
	for k := range m.Fields {
		m.Fields[k].Marks = a.Cell.Members[0].Marks
	}
	for _, given := range []api.Store{storeOf(a, b, m), storeOf(b, a, m)} {
		was := roomy(given)
		for _, call := range calls() {
			got := call(given)
			askApart(t, got, a)
			askApart(t, got, m.Fields[0].Cell)
			ask(t, "the argument", given, was)
		}
	}
}

// R3: Check, Find and Read change nothing, and what they answer is the caller's own; a transaction handed in is as it was, and shares nothing with an answer.
func TestNothingElseIsChanged(t *testing.T) {
	for _, s := range append(shapes(), wrong()...) {
		given := roomy(s)
		was := image(given)
		store.Check(given)
		for _, o := range append(slices.Clone(s.Objects), hollow(3, "new"), hollow(7, "new")) {
			askApart(t, given, store.Find(given, o.Kind, o.Key), store.Find(given, o.Kind, o.Key))
			askApart(t, given, store.Read(given, o.Kind, o.Key), store.Read(given, o.Kind, o.Key))
		}
		if image(given) != was {
			t.Errorf("the argument: %s, was %s", image(given), was)
		}
	}
	for _, s := range shapes() {
		x := roomy(wide(api.Vec{0, 1}))
		was := image(x)
		for i := range len(x.Ops) + 2 {
			askApart(t, x, store.Do(s, x, i))
		}
		got, _ := store.Apply(s, x)
		askApart(t, x, got)
		if image(x) != was {
			t.Error("ops", x.Ops)
		}
	}
}

// R3: what is done to an answer is seen neither in what was handed in, nor in what is answered next.
func TestAnswersAreTheCallers(t *testing.T) {
	s := stocked("a", "b")
	o := store.Find(s, 4, "a")
	o.Cell.Members[0].Marks[0], o.Cell.Members[1].Text = mk(9, 9, 9), "spoilt"
	v := store.Read(s, 3, "a")
	v.Texts[0] = "spoilt"
	x := tx(3, 1, 6, api.Vec{}, change(1, "a", 7, ""))
	got, _ := store.Apply(s, x)
	got.Objects[2].Cell.Writes[0].Text, got.Objects[10].Fields[0].Cell.Amounts[0].N = "spoilt", 77
	got.Objects[3] = api.Object{}
	folded := store.Fold(s, api.Vec{})
	folded.Objects[10].Fields[3].Marks[0], folded.Objects[8].Cell.Elems[0].Text = mk(9, 9, 9), "spoilt"
	ask(t, "the store", s, stocked("a", "b"))
	ask(t, "Find", store.Find(s, 4, "a"), thing(4, "a"))
	ask(t, "Read", store.Read(s, 3, "a"), thingReads(3))
	ask(t, "Fold", store.Fold(s, api.Vec{}), s)
}

// R1, R7: numbers at the ends of what there is lead to answers, and nothing comes round.
func TestExtremes(t *testing.T) {
	for _, s := range shapes() {
		may := mayBe(s)
		for _, p := range ends() {
			for _, n := range ends() {
				deps := api.Vec{p, n, p, n, p, n, p, n, p, n, p, n, p}
				for _, kind := range append([]int{4, 5, 6, 7}, ends()...) {
					x := tx(p, n, p, deps, api.Op{Kind: kind, Key: "a", Act: 1 + kind&3, N: n, Text: "n", Ref: mk(p, n, kind)}, api.Op{Kind: 6, Key: "a", Field: "f", Inner: kind, Act: p, N: n}, drop("a", "f", kind), change(1, "a", n, ""), cut("a", mk(p, n, 1)))
					for _, i := range append(ends(), 2, 3, 4, 5) {
						got := store.Do(s, x, i)
						ask(t, "Do", got, wantDo(s, x, i))
						askCheck(t, got, may)
					}
					want, err := wantApply(s, x)
					askApply(t, s, x, want, err)
					ask(t, "Find", store.Find(s, kind, "a"), wantFind(s, kind, "a"))
				}
				ask(t, "Fold", store.Fold(s, deps), wantFold(s, deps))
				askCheck(t, store.Fold(s, deps), may)
			}
		}
	}
}

// R4, R8: calls know nothing of one another: the same call answers the same, whatever was asked between.
func TestTheSameAgain(t *testing.T) {
	var s api.Store
	for k := range 200 {
		s = store.Do(s, tx(1+k%3, 1+k, k, api.Vec{}, change(1+k*7%6, fmt.Sprint("k", k*37%50), k, "t")), 1)
	}
	askCheck(t, s, true)
	x := wide(api.Vec{0, 90})
	left, _ := store.Apply(s, x)
	folded, read := store.Fold(s, api.Vec{0, 90}), store.Read(s, 1, "k0")
	for range 20 {
		askApply(t, s, x, left, 0)
		ask(t, "Fold", store.Fold(s, api.Vec{0, 90}), folded)
		ask(t, "Read", store.Read(s, 1, "k0"), read)
		store.Apply(stocked("a"), x)
		store.Fold(stocked("k0"), everything())
	}
}

// R1: a store of many objects, and of long ones, is gone through in time.
func TestManyObjects(t *testing.T) {
	const most = 1 << 15
	var s api.Store
	for k := range most {
		s.Objects = append(s.Objects, api.Object{Kind: 1, Key: fmt.Sprintf("%06d", k), Cell: api.Cell{Kind: 1, Base: 1 + k}})
	}
	long := api.Object{Kind: 5, Key: "s", Cell: api.Cell{Kind: 5}}
	for k := range most {
		long.Cell.Elems = append(long.Cell.Elems, api.Elem{Mark: mk(1, k+1, 1), Time: 1})
	}
	s.Objects = append(s.Objects, long)
	askCheck(t, s, true)
	x := tx(2, 1, 2, api.Vec{0, most})
	for k := range 16 {
		x.Ops = append(x.Ops, []api.Op{change(1, fmt.Sprintf("%06d", k*2047), 5, ""), behind("s", mk(1, 1, 1), "t")}[k%2])
	}
	got, err := store.Apply(s, x)
	ask(t, "Apply", err, api.OK)
	ask(t, "Read", store.Read(got, 1, fmt.Sprintf("%06d", 14*2047)).N, 1+14*2047+5)
	ask(t, "Read", len(store.Read(got, 5, "s").Texts), most+8)
	ask(t, "Fold", len(store.Fold(got, everything()).Objects), most+1)
}
