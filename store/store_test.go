package store_test

import (
	"cmp"
	"fmt"
	"math"
	"reflect"
	"slices"
	"strings"
	"testing"

	"plexus/api"
	"plexus/object"
	"plexus/ops"
	"plexus/store"
)

// textMost is how many bytes a key has at most, as the document has it.
const textMost = 64

// leaves are the kinds of leaves, as the document numbers them: Counter, Last, Many, Set, Seq.
func leaves() []int {
	return []int{1, 2, 3, 4, 5}
}

// kinds are the kinds that an object may be of: leaves, and Map.
func kinds() []int {
	return append(leaves(), 6)
}

// strangers are kinds that no object is of: Roster among them.
func strangers() []int {
	return []int{math.MinInt, math.MinInt + 1, -6, -2, -1, 0, 7, 8, 9, 257, 1<<32 + 1, math.MaxInt - 1, math.MaxInt}
}

// keys are some that an object may have, rising.
func keys() []string {
	return []string{"\x00", "a", "ab", "b", strings.Repeat("k", textMost), "\xff"}
}

// mk answers a Mark.
func mk(peer int, seq int, index int) api.Mark {
	return api.Mark{Dot: api.Dot{Peer: peer, Seq: seq}, Index: index}
}

// tx answers a transaction of that name and time that has seen deps, with these ops.
func tx(peer int, seq int, time int, deps api.Vec, l ...api.Op) api.Tx {
	return api.Tx{Dot: api.Dot{Peer: peer, Seq: seq}, Time: time, Deps: deps, Ops: l}
}

// everything is a vector of all that there may be.
func everything() api.Vec {
	var v api.Vec
	for p := 1; p < len(v); p++ {
		v[p] = api.MaxSeq
	}
	return v
}

// full answers a cell of each kind that Checks, with things of the peers 1 and 2 in it.
func full(kind int) api.Cell {
	c := api.Cell{Kind: kind}
	switch kind {
	case api.Counter:
		c.Amounts = []api.Amount{{Mark: mk(1, 1, 1), N: 3}, {Mark: mk(2, 1, 1), N: -400}}
	case api.Last, api.Many:
		c.Writes = []api.Write{{Mark: mk(1, 1, 1), Time: 7, Text: "b"}, {Mark: mk(2, 1, 1), Time: 5, Text: "a"}}
	case api.Set:
		c.Members = []api.Member{{Text: "b", Marks: []api.Mark{mk(1, 1, 1), mk(2, 1, 1)}}, {Text: "c", Marks: []api.Mark{mk(1, 1, 1)}}}
	case api.Seq:
		c.Elems = []api.Elem{{Mark: mk(1, 1, 1), Time: 3, Text: "a"}, {Mark: mk(2, 1, 1), Time: 5, Ref: mk(1, 1, 1), Text: "c"}}
	}
	return c
}

// fullReads is what is read of a full cell.
func fullReads(kind int) api.Value {
	return map[int]api.Value{
		1: {Kind: 1, N: -397}, 2: {Kind: 2, Texts: []string{"b"}}, 3: {Kind: 3, Texts: []string{"a", "b"}},
		4: {Kind: 4, Texts: []string{"b", "c"}}, 5: {Kind: 5, Texts: []string{"a", "c"}},
	}[kind]
}

// thing answers an object of a kind and key that Checks, with something in it: a map has a field of every kind.
func thing(kind int, key string) api.Object {
	if kind != api.Map {
		return api.Object{Kind: kind, Key: key, Cell: full(kind)}
	}
	o := api.Object{Kind: 6, Key: key}
	for _, inner := range leaves() {
		o.Fields = append(o.Fields, api.Field{Name: "f", Marks: []api.Mark{mk(1, 1, 1), mk(2, 1, 1)}, Cell: full(inner)})
	}
	return o
}

// thingReads is what is read of a thing.
func thingReads(kind int) api.Value {
	if kind != api.Map {
		return fullReads(kind)
	}
	v := api.Value{Kind: 6}
	for _, inner := range leaves() {
		v.Fields = append(v.Fields, api.Named{Name: "f", Value: fullReads(inner)})
	}
	return v
}

// hollow answers an object of a kind and key with nothing in it.
func hollow(kind int, key string) api.Object {
	if kind == api.Map {
		return api.Object{Kind: 6, Key: key}
	}
	return api.Object{Kind: kind, Key: key, Cell: api.Cell{Kind: kind}}
}

// storeOf answers the store of these objects.
func storeOf(l ...api.Object) api.Store {
	return api.Store{Objects: l}
}

// stocked answers a store with a thing of every kind and of each of these keys, which rise.
func stocked(keys ...string) api.Store {
	var s api.Store
	for _, kind := range kinds() {
		for _, key := range keys {
			s.Objects = append(s.Objects, thing(kind, key))
		}
	}
	return s
}

// without answers a store that lacks the object at a place.
func without(s api.Store, at int) api.Store {
	return storeOf(slices.Delete(slices.Clone(s.Objects), at, at+1)...)
}

// plain answers a value that is the same, of new memory, with nil for each list that has nothing in it.
func plain(v reflect.Value) reflect.Value {
	made := reflect.New(v.Type()).Elem()
	switch v.Kind() {
	case reflect.Slice:
		for k := range v.Len() {
			made.Set(reflect.Append(made, plain(v.Index(k))))
		}
	case reflect.Struct:
		for k := range v.NumField() {
			made.Field(k).Set(plain(v.Field(k)))
		}
	default:
		made.Set(v)
	}
	return made
}

// same tells whether two values are the same; nil and empty lists are.
func same[T any](a T, b T) bool {
	return reflect.DeepEqual(a, b) || reflect.DeepEqual(plain(reflect.ValueOf(a)).Interface(), plain(reflect.ValueOf(b)).Interface())
}

// ask holds an answer against what is wanted.
func ask[T any](t *testing.T, what string, got T, want T) {
	t.Helper()
	if !same(got, want) {
		t.Errorf("%s: %+v, want %+v", what, got, want)
	}
}

// askCheck asks Check.
func askCheck(t *testing.T, s api.Store, want bool) {
	t.Helper()
	if got := store.Check(s); got != want {
		t.Errorf("Check(%+v) = %v, want %v", s, got, want)
	}
}

// askApply asks Apply.
func askApply(t *testing.T, s api.Store, x api.Tx, want api.Store, wantErr api.Errno) {
	t.Helper()
	got, err := store.Apply(s, x)
	if err != wantErr || !same(got, want) {
		t.Errorf("Apply(%+v, %+v) = %+v, %d, want %+v, %d", s, x, got, err, want, wantErr)
	}
}

// change answers an op that changes the object of a kind and key, by an act that its kind takes; of a map its field f with a Counter.
func change(kind int, key string, n int, text string) api.Op {
	if kind == api.Map {
		return inside(key, "f", 1, n, text)
	}
	return filled(api.Op{Kind: kind, Key: key}, kind, n, text)
}

// inside answers an op that changes a field of a map.
func inside(key string, name string, inner int, n int, text string) api.Op {
	return filled(api.Op{Kind: 6, Key: key, Field: name, Inner: inner}, inner, n, text)
}

// filled answers an op with an act that a leaf's kind takes, and what that uses.
func filled(o api.Op, kind int, n int, text string) api.Op {
	switch kind {
	case api.Counter:
		o.Act, o.N = api.ActAdd, n
	case api.Last, api.Many:
		o.Act, o.Text = api.ActPut, text
	case api.Set:
		o.Act, o.Text = api.ActAdd, text
	case api.Seq:
		o.Act, o.Text = api.ActIns, text
	}
	return o
}

// del answers an op that takes a text out of a set.
func del(key string, text string) api.Op {
	return api.Op{Kind: 4, Key: key, Act: api.ActDel, Text: text}
}

// cut answers an op that takes an element out of a sequence.
func cut(key string, ref api.Mark) api.Op {
	return api.Op{Kind: 5, Key: key, Act: api.ActDel, Ref: ref}
}

// behind answers an op that puts an element behind another one.
func behind(key string, ref api.Mark, text string) api.Op {
	return api.Op{Kind: 5, Key: key, Act: api.ActIns, Ref: ref, Text: text}
}

// drop answers an op that drops a field of a map.
func drop(key string, name string, inner int) api.Op {
	return api.Op{Kind: 6, Key: key, Field: name, Inner: inner, Act: api.ActDrop}
}

// roster answers an op of the roster.
func roster(act int, n int) api.Op {
	return api.Op{Kind: 7, Act: act, N: n}
}

// opsOf answers ops that may be, of each act that an object of a kind takes, upon one of that key.
func opsOf(kind int, key string) []api.Op {
	switch kind {
	case api.Set:
		return []api.Op{change(4, key, 0, "b"), change(4, key, 0, "t"), del(key, "b"), del(key, "z")}
	case api.Seq:
		return []api.Op{change(5, key, 0, "t"), cut(key, mk(1, 1, 1)), behind(key, mk(1, 1, 1), "u"), behind(key, mk(0, 0, 1), "v"), cut(key, mk(9, 9, 9))}
	case api.Map:
		var l []api.Op
		for _, inner := range leaves() {
			for _, name := range []string{"f", "n"} {
				for _, x := range opsOf(inner, key) {
					x.Kind, x.Field, x.Inner = 6, name, inner
					l = append(l, x)
				}
				l = append(l, drop(key, name, inner))
			}
		}
		return l
	}
	return []api.Op{change(kind, key, 7, "t"), change(kind, key, 0, "")}
}

// mayBe tells what the document asks of Check.
func mayBe(s api.Store) bool {
	for k, o := range s.Objects {
		if !object.Check(o) || object.Empty(o) {
			return false
		}
		if k == 0 {
			continue
		}
		if p := s.Objects[k-1]; p.Kind > o.Kind || p.Kind == o.Kind && p.Key >= o.Key {
			return false
		}
	}
	return true
}

// wantFind answers what the document asks of Find.
func wantFind(s api.Store, kind int, key string) api.Object {
	if !mayBe(s) {
		return api.Object{}
	}
	for _, o := range s.Objects {
		if o.Kind == kind && o.Key == key {
			return o
		}
	}
	o, _ := object.New(kind, key)
	return o
}

// wantDo answers what the document asks of Do: all other objects, and what the op made of the one that it names, sorted.
func wantDo(s api.Store, x api.Tx, i int) api.Store {
	if !mayBe(s) || i < 1 || i > len(x.Ops) || x.Ops[i-1].Kind == 7 || !ops.CheckOp(x.Ops[i-1]) {
		return s
	}
	op := x.Ops[i-1]
	o := object.Do(wantFind(s, op.Kind, op.Key), x, i)
	l := slices.DeleteFunc(slices.Clone(s.Objects), func(p api.Object) bool { return p.Kind == op.Kind && p.Key == op.Key })
	if !object.Empty(o) {
		l = append(l, o)
	}
	slices.SortFunc(l, func(a api.Object, b api.Object) int {
		return cmp.Or(a.Kind-b.Kind, strings.Compare(a.Key, b.Key))
	})
	return storeOf(l...)
}

// wantApply answers what the document asks of Apply.
func wantApply(s api.Store, x api.Tx) (api.Store, api.Errno) {
	if !mayBe(s) {
		return s, 3
	}
	if !ops.CheckTx(x) && !ops.CheckOpen(x) {
		return api.Store{}, 3
	}
	for k := range x.Ops {
		s = wantDo(s, x, k+1)
	}
	return s, 0
}

// wantFold answers what the document asks of Fold.
func wantFold(s api.Store, cut api.Vec) api.Store {
	if !mayBe(s) {
		return s
	}
	var l []api.Object
	for _, o := range s.Objects {
		l = append(l, object.Fold(o, cut))
	}
	return storeOf(slices.DeleteFunc(l, object.Empty)...)
}

// P16.1, P16.2: the chapter's example.
func TestExample(t *testing.T) {
	s, err := store.Apply(api.Store{}, tx(1, 1, 1, api.Vec{}, change(1, "a", 3, "")))
	ask(t, "Apply", err, api.OK)
	ask(t, "Read", store.Read(s, api.Counter, "a"), api.Value{Kind: 1, N: 3})
	ask(t, "the store", s, storeOf(api.Object{Kind: 1, Key: "a", Cell: api.Cell{Kind: 1, Amounts: []api.Amount{{Mark: mk(1, 1, 1), N: 3}}}}))
}

// P16.1: the empty store Checks; nothing is in it, and nothing comes of folding it.
func TestEmptyStore(t *testing.T) {
	for _, s := range []api.Store{{}, {Objects: []api.Object{}}, {Objects: stocked("a").Objects[:0]}} {
		askCheck(t, s, true)
		ask(t, "Fold", store.Fold(s, everything()), api.Store{})
		for _, kind := range kinds() {
			ask(t, "Find", store.Find(s, kind, "k"), hollow(kind, "k"))
			ask(t, "Read", store.Read(s, kind, "k"), api.Value{Kind: kind})
		}
		for _, i := range []int{-1, 0, 1, 2} {
			ask(t, "Do", store.Do(s, api.Tx{}, i), api.Store{})
		}
		askApply(t, s, api.Tx{Time: 1}, api.Store{}, 0)
		askApply(t, s, api.Tx{}, api.Store{}, 3)
	}
}

// P16.1: what may be: each thing alone, and all together; empty lists are as nil ones.
func TestCheckOfSound(t *testing.T) {
	all := stocked(keys()...)
	askCheck(t, all, true)
	askCheck(t, roomy(all), true)
	for _, o := range all.Objects {
		askCheck(t, storeOf(o), true)
	}
	for _, kind := range kinds() {
		for n := range 2*textMost + 2 {
			askCheck(t, storeOf(thing(kind, strings.Repeat("k", n))), n >= 1 && n <= 64)
		}
	}
}

// P16.1: Objects rise by Kind, of one Kind by Key: of all pairs and of all threes of names.
func TestCheckOrder(t *testing.T) {
	l := stocked("B", "a", "aa", "b", "\xff").Objects
	for a := range l {
		for b := range l {
			askCheck(t, storeOf(l[a], l[b]), a < b)
		}
	}
	l = stocked("a", "b").Objects
	for a := range l {
		for b := range l {
			for c := range l {
				askCheck(t, storeOf(l[a], l[b], l[c]), a < b && b < c)
			}
		}
	}
	// Unlike things of one name are one object twice.
	other := api.Object{Kind: 1, Key: "a", Cell: api.Cell{Kind: 1, Base: 5}}
	askCheck(t, storeOf(other, thing(1, "a")), false)
	askCheck(t, storeOf(thing(1, "a"), other), false)
	askCheck(t, storeOf(thing(1, "b"), thing(2, "a")), true)
	askCheck(t, storeOf(thing(1, "a"), thing(2, "a")), true)
	askCheck(t, storeOf(thing(2, "a"), thing(1, "b")), false)
}

// P16.1: none is Empty, wherever it stands; one of which nothing is read, and which is not Empty, may be there.
func TestCheckOfEmptyObjects(t *testing.T) {
	all := stocked("a", "b")
	for k, o := range all.Objects {
		s := storeOf(slices.Clone(all.Objects)...)
		s.Objects[k] = hollow(o.Kind, o.Key)
		askCheck(t, s, false)
		askCheck(t, storeOf(hollow(o.Kind, o.Key)), false)
	}
	gone := api.Cell{Kind: 5, Elems: []api.Elem{{Mark: mk(1, 1, 1), Gone: []api.Mark{mk(1, 2, 1)}}}}
	for _, o := range []api.Object{
		{Kind: 5, Key: "k", Cell: gone}, {Kind: 6, Key: "k", Fields: []api.Field{{Name: "f", Cell: gone}}}, {Kind: 6, Key: "k", Fields: []api.Field{{Name: "f", Base: true, Cell: api.Cell{Kind: 1}}}},
		{Kind: 1, Key: "k", Cell: api.Cell{Kind: 1, Amounts: []api.Amount{{Mark: mk(1, 1, 1)}}}}, {Kind: 1, Key: "k", Cell: api.Cell{Kind: 1, Base: -1}},
	} {
		askCheck(t, storeOf(o), true)
		ask(t, "Find", store.Find(storeOf(o), o.Kind, "k"), o)
	}
}

// P16.1: Find and Read of each object that is there.
func TestFindAndRead(t *testing.T) {
	for _, s := range []api.Store{stocked("a"), stocked(keys()...), storeOf(thing(3, "a")), storeOf(thing(1, "b"), thing(6, "a"))} {
		for _, o := range s.Objects {
			ask(t, "Find", store.Find(s, o.Kind, o.Key), o)
			ask(t, "Read", store.Read(s, o.Kind, o.Key), thingReads(o.Kind))
		}
	}
	// Each is itself, and not another one of its kind or key.
	var s api.Store
	for k, key := range keys() {
		s.Objects = append(s.Objects, api.Object{Kind: 1, Key: key, Cell: api.Cell{Kind: 1, Base: 10 + k}})
	}
	for k, key := range keys() {
		ask(t, "Read", store.Read(s, 1, key), api.Value{Kind: 1, N: 10 + k})
		ask(t, "Read", store.Read(s, 2, key), api.Value{Kind: 2})
	}
}

// P16.1: Find of an object that nobody has made is New of it, and Read what that reads; ahead of all, between two, and behind all that are there.
func TestFindOfNone(t *testing.T) {
	all := stocked("a", "b")
	for k, o := range all.Objects {
		s := without(all, k)
		ask(t, "Find", store.Find(s, o.Kind, o.Key), hollow(o.Kind, o.Key))
		ask(t, "Read", store.Read(s, o.Kind, o.Key), api.Value{Kind: o.Kind})
	}
	for _, kind := range kinds() {
		for _, key := range []string{"\x00", "A", "a\x00", "aa", "c", "\xff", strings.Repeat("a", textMost)} {
			ask(t, "Find", store.Find(all, kind, key), hollow(kind, key))
			ask(t, "Read", store.Read(all, kind, key), api.Value{Kind: kind})
		}
	}
}

// P16.1: Find and Read of a kind and key that no object can be of are zero: kinds from below 0 to beyond the last one, keys of 0, 1, MaxText bytes and one beyond.
func TestFindNames(t *testing.T) {
	for _, s := range []api.Store{{}, stocked("a", "b"), storeOf(thing(6, strings.Repeat("k", textMost)))} {
		for _, kind := range append(kinds(), strangers()...) {
			for _, n := range []int{0, 1, 2, 63, 64, 65, 66, 1000} {
				key := strings.Repeat("x", n)
				var want api.Object
				var reads api.Value
				if kind >= 1 && kind <= 6 && n >= 1 && n <= 64 {
					want, reads = hollow(kind, key), api.Value{Kind: kind}
				}
				ask(t, "Find", store.Find(s, kind, key), want)
				ask(t, "Read", store.Read(s, kind, key), reads)
			}
		}
		ask(t, "Find", store.Find(s, 7, "a"), api.Object{})
		ask(t, "Read", store.Read(s, 7, "a"), api.Value{})
	}
}

// P16.2: Do of the op at each place of a transaction, and of none: i of 0, of the number of the ops, one beyond, the least and the greatest int.
func TestDoPlaces(t *testing.T) {
	for n := range 5 {
		x := tx(3, 1, 6, api.Vec{})
		for k := range n {
			x.Ops = append(x.Ops, change(1, fmt.Sprint("k", k), 10+k, ""))
		}
		for _, s := range []api.Store{{}, stocked("a"), stocked("k0", "z")} {
			for _, i := range []int{math.MinInt, math.MinInt + 1, -n, -1, 0, n + 1, n + 2, math.MaxInt - 1, math.MaxInt} {
				ask(t, "no op", store.Do(s, x, i), s)
			}
			for i := 1; i <= n; i++ {
				ask(t, "Do", store.Do(s, x, i), wantDo(s, x, i))
			}
		}
		for i := 1; i <= n; i++ {
			amount := api.Amount{Mark: mk(3, 1, i), N: 9 + i}
			want := api.Object{Kind: 1, Key: fmt.Sprint("k", i-1), Cell: api.Cell{Kind: 1, Amounts: []api.Amount{amount}}}
			ask(t, "the op there", store.Do(api.Store{}, x, i), storeOf(want))
		}
	}
	// Of a list of ops its length alone counts.
	l := []api.Op{change(1, "a", 7, ""), change(1, "b", 8, "")}
	ask(t, "behind the end", store.Do(api.Store{}, tx(3, 1, 6, api.Vec{}, l[:1]...), 2), api.Store{})
	ask(t, "behind the end", store.Do(api.Store{}, tx(3, 1, 6, api.Vec{}, l[:0]...), 1), api.Store{})
}

// P16.2: Do changes the object that the op names, as layer 14 does it, and no other one.
func TestDoOfEach(t *testing.T) {
	all := stocked("a", "b", "c")
	for k, o := range all.Objects {
		for _, op := range opsOf(o.Kind, o.Key) {
			for _, deps := range []api.Vec{{}, {0, 1}, everything()} {
				x := tx(3, 1, 6, deps, roster(1, 2), op)
				want := storeOf(slices.Clone(all.Objects)...)
				want.Objects[k] = object.Do(o, x, 2)
				ask(t, "Do", store.Do(all, x, 2), want)
				ask(t, "Do", store.Do(all, x, 2), wantDo(all, x, 2))
			}
		}
	}
}

// P16.2: an object that is new comes to its place: the first one, each between two, the last one.
func TestDoOfNew(t *testing.T) {
	all := stocked("a", "b", "c")
	for k, o := range all.Objects {
		x := tx(3, 1, 6, api.Vec{}, change(o.Kind, o.Key, 7, "t"))
		want := storeOf(slices.Clone(all.Objects)...)
		want.Objects[k] = object.Do(hollow(o.Kind, o.Key), x, 1)
		got := store.Do(without(all, k), x, 1)
		ask(t, "Do", got, want)
		askCheck(t, got, true)
	}
	for _, op := range []api.Op{change(1, "\x00", 7, "t"), change(6, "\xff", 7, "t"), change(3, "bb", 7, "t"), change(3, strings.Repeat("b", textMost), 7, "t")} {
		x := tx(3, 1, 6, api.Vec{}, op)
		got := store.Do(all, x, 1)
		ask(t, "Do", got, wantDo(all, x, 1))
		ask(t, "how many", len(got.Objects), 19)
		askCheck(t, got, true)
	}
}

// last answers an op that takes all of what alone answers.
func last(kind int, key string) api.Op {
	if kind == api.Set {
		return del(key, "x")
	}
	return drop(key, "f", 2)
}

// alone answers an object of a kind that one op takes all of: a set with one text, or a map with one field.
func alone(kind int, key string) api.Object {
	if kind == api.Set {
		return api.Object{Kind: 4, Key: key, Cell: api.Cell{Kind: 4, Members: []api.Member{{Text: "x", Base: true, Marks: []api.Mark{mk(1, 1, 1)}}}}}
	}
	return api.Object{Kind: 6, Key: key, Fields: []api.Field{{Name: "f", Base: true, Marks: []api.Mark{mk(1, 1, 1)}, Cell: full(2)}}}
}

// P16.2: an object that is Empty behind an op goes, from the first place, from a middle one, from the last one, and as the only one.
func TestDoOfEmptied(t *testing.T) {
	for _, kind := range []int{4, 6} {
		o, op := alone(kind, "k"), last(kind, "k")
		seen, blind := tx(3, 1, 6, everything(), op), tx(3, 1, 6, api.Vec{}, op)
		below, above := thing(kind, "a"), thing(kind, "z")
		for _, s := range []api.Store{storeOf(o), storeOf(o, above), storeOf(below, o), storeOf(below, o, above), storeOf(thing(1, "k"), o), storeOf(thing(1, "z"), below, o, above)} {
			k := slices.IndexFunc(s.Objects, func(p api.Object) bool { return p.Kind == kind && p.Key == "k" })
			got := store.Do(s, seen, 1)
			ask(t, "goes", got, without(s, k))
			askCheck(t, got, true)
			ask(t, "Find", store.Find(got, kind, "k"), hollow(kind, "k"))
			ask(t, "stays", store.Do(s, blind, 1), wantDo(s, blind, 1))
			ask(t, "how many", len(store.Do(s, blind, 1).Objects), len(s.Objects))
			again := store.Do(got, tx(4, 1, 7, everything(), change(kind, "k", 7, "t")), 1)
			ask(t, "and comes again", len(again.Objects), len(s.Objects))
			askCheck(t, again, true)
		}
	}
}

// P16.2: an op that leaves a new object Empty makes none.
func TestDoOfNothing(t *testing.T) {
	for _, op := range []api.Op{del("k", "x"), cut("k", mk(1, 1, 1)), behind("k", mk(1, 1, 1), "x"), drop("k", "f", 1), drop("k", "f", 5)} {
		if !ops.CheckOp(op) {
			t.Errorf("%+v may not be", op)
		}
		for _, s := range []api.Store{{}, stocked("a"), stocked("a", "z"), stocked("z")} {
			ask(t, "Do", store.Do(s, tx(3, 1, 6, everything(), op), 1), s)
			askApply(t, s, tx(3, 1, 6, api.Vec{0, 1}, op), s, 0)
		}
	}
	// A field of which nothing is done is there all the same.
	op := behind("k", mk(1, 1, 1), "x")
	op.Kind, op.Field, op.Inner = 6, "f", 5
	got := store.Do(api.Store{}, tx(3, 1, 6, everything(), op), 1)
	ask(t, "Read", store.Read(got, 6, "k"), api.Value{Kind: 6, Fields: []api.Named{{Name: "f", Value: api.Value{Kind: 5}}}})
}

// P16.2: an op of the Roster does nothing to the objects, whether it may be or not; Apply takes it, if it may be.
func TestDoOfRoster(t *testing.T) {
	for _, s := range []api.Store{{}, stocked("a", "b")} {
		for _, act := range []int{1, 2} {
			for n := range 14 {
				x := tx(3, 1, 6, api.Vec{}, roster(act, n))
				ask(t, "may be", ops.CheckOp(x.Ops[0]), n >= 1 && n <= 12)
				ask(t, "Do", store.Do(s, x, 1), s)
				if n >= 1 && n <= 12 {
					askApply(t, s, x, s, 0)
				} else {
					askApply(t, s, x, api.Store{}, 3)
				}
			}
		}
		for _, op := range []api.Op{{Kind: 7}, roster(0, 2), roster(3, 2), {Kind: 7, Key: "a", Act: 1, N: 2}, {Kind: 7, Field: "f", Act: 1, N: 2}, {Kind: 7, Inner: 1, Act: 1, N: 2}, {Kind: 7, Act: 1, N: 2, Text: "t"}, {Kind: 7, Act: 1, N: 2, Ref: mk(1, 1, 1)}} {
			x := tx(3, 1, 6, api.Vec{0, 1}, op)
			ask(t, "Do", store.Do(s, x, 1), s)
			askApply(t, s, x, api.Store{}, 3)
		}
	}
}

// P16.2: an op of the Roster among others: those are done, and keep their places in their Marks.
func TestRosterAmongOthers(t *testing.T) {
	x := tx(3, 1, 6, api.Vec{}, roster(1, 5), change(1, "a", 3, ""), roster(2, 4), change(5, "s", 0, "x"), behind("s", mk(3, 1, 4), "y"), roster(1, 12))
	want := storeOf(
		api.Object{Kind: 1, Key: "a", Cell: api.Cell{Kind: 1, Amounts: []api.Amount{{Mark: mk(3, 1, 2), N: 3}}}},
		api.Object{Kind: 5, Key: "s", Cell: api.Cell{Kind: 5, Elems: []api.Elem{{Mark: mk(3, 1, 4), Time: 6, Text: "x"}, {Mark: mk(3, 1, 5), Time: 6, Ref: mk(3, 1, 4), Text: "y"}}}})
	askApply(t, api.Store{}, x, want, 0)
	for _, i := range []int{1, 3, 6} {
		ask(t, "Do", store.Do(want, x, i), want)
	}
}

// refused answers ops of the object of a kind and key that CheckOp refuses, for each reason that chapter 7 names: each is one that may be, with one thing turned.
func refused(kind int, key string) []api.Op {
	var l []api.Op
	turned := func(o api.Op, turn func(*api.Op)) {
		turn(&o)
		l = append(l, o)
	}
	for _, o := range opsOf(kind, key) {
		if o.Field == "n" {
			continue
		}
		for _, act := range []int{math.MinInt, -1, 0, 1, 2, 3, 4, 5, 6, math.MaxInt} {
			turned(o, func(o *api.Op) { o.Act = act })
		}
		for _, n := range []int{1<<30 + 1, -1<<30 - 1, math.MinInt, math.MaxInt, 1, -1} {
			turned(o, func(o *api.Op) { o.N = n })
		}
		for _, n := range []int{0, 1, 65, 1000} {
			turned(o, func(o *api.Op) { o.Text = strings.Repeat("x", n) })
			turned(o, func(o *api.Op) { o.Field = strings.Repeat("f", n) })
		}
		for _, m := range []api.Mark{mk(1, 1, 1), mk(0, 0, 1), mk(0, 0, 0), mk(1, 1, 0), mk(1, 1, 17), mk(1, 1, -1), mk(0, 1, 1), mk(1, 0, 1), mk(13, 1, 1), mk(-1, 1, 1), mk(1, 1<<20+1, 1), mk(0, 0, 17), mk(0, 0, -1)} {
			turned(o, func(o *api.Op) { o.Ref = m })
		}
		for _, inner := range append(kinds(), strangers()...) {
			turned(o, func(o *api.Op) { o.Inner = inner })
		}
		for _, n := range []int{0, 65, 1000} {
			turned(o, func(o *api.Op) { o.Key = strings.Repeat("k", n) })
		}
		for _, other := range strangers() {
			turned(o, func(o *api.Op) { o.Kind = other })
		}
	}
	return slices.DeleteFunc(l, ops.CheckOp)
}

// P16.2: an op that CheckOp refuses, for each reason, does nothing by Do, wherever it stands; and Apply refuses all.
func TestRefusedOps(t *testing.T) {
	all := stocked("a", "b")
	for _, kind := range kinds() {
		l := refused(kind, "a")
		if len(l) < 50 {
			t.Errorf("%d of kind %d", len(l), kind)
		}
		for _, op := range l {
			x := tx(3, 1, 6, everything(), op)
			ask(t, "Do", store.Do(all, x, 1), all)
			ask(t, "Do", store.Do(api.Store{}, x, 1), api.Store{})
			x = tx(3, 1, 6, api.Vec{0, 1, 1}, change(1, "b", 7, ""), op, change(1, "b", 7, ""))
			ask(t, "Do", store.Do(all, x, 2), all)
			askApply(t, all, x, api.Store{}, 3)
			askApply(t, api.Store{}, x, api.Store{}, 3)
			x.Dot = api.Dot{}
			askApply(t, all, x, api.Store{}, 3)
		}
	}
}

// P16.2: Do asks nothing else of the transaction: neither its name, its time, what it has seen, nor its other ops.
func TestDoAsksTheOpAlone(t *testing.T) {
	for _, kind := range kinds() {
		for _, op := range opsOf(kind, "a") {
			l := make([]api.Op, 20)
			l[0], l[16], l[19] = op, op, op
			for _, x := range []api.Tx{{Ops: l}, tx(13, -1, -1, api.Vec{-1, -1, 5}, l...)} {
				for _, s := range []api.Store{{}, stocked("a", "b")} {
					for _, i := range []int{1, 2, 17, 20} {
						ask(t, "Do", store.Do(s, x, i), wantDo(s, x, i))
					}
				}
			}
		}
	}
	got := store.Do(api.Store{}, api.Tx{Ops: []api.Op{18: {}, 19: change(1, "a", 7, "")}}, 20)
	ask(t, "Read", store.Read(got, 1, "a"), api.Value{Kind: 1, N: 7})
}

// wide is a transaction of peer 3 with ops upon objects of every kind, each of two keys, and one of the roster.
func wide(deps api.Vec) api.Tx {
	l := []api.Op{inside("m", "f", 2, 0, "t"), inside("m", "f", 4, 0, "t"), inside("l", "g", 1, 9, ""), drop("m", "f", 2), inside("m", "e", 5, 0, "t"), roster(1, 7)}
	for _, kind := range leaves() {
		l = append(l, change(kind, "b", 7, "t"), change(kind, "a", 8, "u"))
	}
	return tx(3, 1, 6, deps, l...)
}

// wideReads is what is read behind a wide transaction alone, by kinds and keys.
func wideReads(kind int, key string) api.Value {
	n, text := 7, "t"
	if key == "a" {
		n, text = 8, "u"
	}
	switch {
	case kind == api.Map && key == "m":
		return api.Value{Kind: 6, Fields: []api.Named{{Name: "e", Value: api.Value{Kind: 5, Texts: []string{"t"}}}, {Name: "f", Value: api.Value{Kind: 4, Texts: []string{"t"}}}}}
	case kind == api.Map:
		return api.Value{Kind: 6, Fields: []api.Named{{Name: "g", Value: api.Value{Kind: 1, N: 9}}}}
	case kind == api.Counter:
		return api.Value{Kind: 1, N: n}
	}
	return api.Value{Kind: kind, Texts: []string{text}}
}

// P16.2: Apply does all ops of a transaction, in order: what is read is written out, and the store is what Do of each came to.
func TestApply(t *testing.T) {
	x := wide(api.Vec{})
	ask(t, "how many ops", len(x.Ops), 16)
	s, err := store.Apply(api.Store{}, x)
	ask(t, "Apply", err, api.OK)
	askCheck(t, s, true)
	ask(t, "how many objects", len(s.Objects), 12)
	for _, kind := range kinds() {
		for _, key := range []string{"a", "b", "l", "m"} {
			if kind == api.Map == (key >= "l") {
				ask(t, "Read", store.Read(s, kind, key), wideReads(kind, key))
			} else {
				ask(t, "Read", store.Read(s, kind, key), api.Value{Kind: kind})
			}
		}
	}
	for _, s := range []api.Store{{}, stocked("a"), stocked("a", "b", "l", "m"), stocked("c", "n")} {
		for _, deps := range []api.Vec{{}, {0, 1}, {0, 1, 1}} {
			x, each := wide(deps), s
			for k := range x.Ops {
				each = store.Do(each, x, k+1)
			}
			askApply(t, s, x, each, 0)
			want, _ := wantApply(s, x)
			askApply(t, s, x, want, 0)
		}
	}
}

// P16.2: an op has seen those ahead of it in its transaction: their order counts.
func TestApplyInOrder(t *testing.T) {
	put := func(text string) api.Op { return change(3, "r", 0, text) }
	for _, c := range []struct {
		ops  []api.Op
		want api.Value
	}{
		{[]api.Op{put("a"), put("b")}, api.Value{Kind: 3, Texts: []string{"b"}}},
		{[]api.Op{put("b"), put("a")}, api.Value{Kind: 3, Texts: []string{"a"}}},
		{[]api.Op{change(4, "r", 0, "x"), del("r", "x")}, api.Value{Kind: 4}},
		{[]api.Op{del("r", "x"), change(4, "r", 0, "x")}, api.Value{Kind: 4, Texts: []string{"x"}}},
		{[]api.Op{change(5, "r", 0, "x"), behind("r", mk(3, 1, 1), "y"), cut("r", mk(3, 1, 1))}, api.Value{Kind: 5, Texts: []string{"y"}}},
		{[]api.Op{inside("r", "f", 1, 3, ""), inside("r", "f", 1, 4, ""), drop("r", "f", 1), inside("r", "f", 1, 5, "")}, api.Value{Kind: 6, Fields: []api.Named{{Name: "f", Value: api.Value{Kind: 1, N: 5}}}}},
		{[]api.Op{inside("r", "f", 1, 3, ""), drop("r", "f", 1)}, api.Value{Kind: 6}},
	} {
		s, err := store.Apply(api.Store{}, tx(3, 1, 6, api.Vec{}, c.ops...))
		ask(t, "Apply", err, api.OK)
		ask(t, "Read", store.Read(s, c.ops[0].Kind, "r"), c.want)
		beside, _ := store.Apply(stocked("a", "z"), tx(3, 1, 6, api.Vec{}, c.ops...))
		ask(t, "Read", store.Read(beside, c.ops[0].Kind, "r"), c.want)
	}
	// What goes within a transaction is gone, and what it goes from comes again.
	s, _ := store.Apply(api.Store{}, tx(3, 1, 6, api.Vec{}, change(4, "r", 0, "x"), change(1, "a", 1, ""), del("r", "x")))
	ask(t, "gone", s, storeOf(api.Object{Kind: 1, Key: "a", Cell: api.Cell{Kind: 1, Amounts: []api.Amount{{Mark: mk(3, 1, 2), N: 1}}}}))
}

// P16.2: a transaction with no Dot, which CheckOpen takes: with no ops, one and MaxOps; its ops refer to those ahead of them by the zero Dot.
func TestApplyOfOpen(t *testing.T) {
	for _, s := range []api.Store{{}, stocked("a", "b")} {
		askApply(t, s, api.Tx{Time: 1}, s, 0)
		askApply(t, s, api.Tx{Time: 1 << 40, Deps: everything()}, s, 0)
		for n := range 18 {
			x := api.Tx{Time: 1, Deps: api.Vec{0, 1, 1}}
			for k := range n {
				x.Ops = append(x.Ops, change(1+k%6, fmt.Sprint("k", k%3), k, "t"))
			}
			want, err := wantApply(s, x)
			ask(t, "the error", err == api.OK, n <= 16)
			askApply(t, s, x, want, err)
		}
	}
	x := api.Tx{Time: 4, Deps: api.Vec{0, 1}, Ops: []api.Op{change(5, "a", 0, "x"), behind("a", mk(0, 0, 1), "y"), behind("a", mk(1, 1, 1), "z"), cut("a", mk(0, 0, 1)), change(1, "a", 7, "")}}
	s, err := store.Apply(stocked("a"), x)
	ask(t, "Apply", err, api.OK)
	ask(t, "Read", store.Read(s, 5, "a"), api.Value{Kind: 5, Texts: []string{"y", "a", "c", "z"}})
	ask(t, "its own marks", s.Objects[0].Cell.Amounts[0], api.Amount{Mark: mk(0, 0, 5), N: 7})
}

// P16.2: the same transaction done twice, by Do of one op and by Apply, is done once, where each op is of an object of its own.
func TestTwice(t *testing.T) {
	for _, s := range []api.Store{{}, stocked("a"), stocked("a", "b", "l", "m")} {
		for _, kind := range kinds() {
			for _, op := range opsOf(kind, "a") {
				for _, deps := range []api.Vec{{}, {0, 1}, everything()} {
					x := tx(3, 1, 6, deps, op)
					once := store.Do(s, x, 1)
					ask(t, "twice", store.Do(once, x, 1), once)
				}
			}
		}
		for _, deps := range []api.Vec{{}, {0, 1}, {0, 1, 1}} {
			x := wide(deps)
			once, _ := store.Apply(s, x)
			askApply(t, once, x, once, 0)
			x.Dot = api.Dot{}
			open, _ := store.Apply(s, x)
			askApply(t, open, x, open, 0)
		}
	}
	// Of what went meanwhile it is what Do of each op comes to.
	x := tx(3, 1, 6, api.Vec{}, change(3, "r", 0, "a"), change(3, "r", 0, "b"), change(4, "r", 0, "x"), del("r", "x"))
	once, _ := store.Apply(api.Store{}, x)
	want, _ := wantApply(once, x)
	askApply(t, once, x, want, 0)
}

// cuts are cuts that have none, some and all of the Dots of stocked stores.
func cuts() []api.Vec {
	return []api.Vec{{}, {9, 0, 0, 9, 9}, {0, 1}, {0, 0, 1}, {0, 2, 1}, everything(), {9, -1, math.MaxInt, math.MinInt}}
}

// P16.2: Fold is layer 14's of each object, and what is read stays.
func TestFold(t *testing.T) {
	for _, s := range []api.Store{{}, storeOf(thing(6, "a")), stocked("a"), stocked(keys()...)} {
		for _, cut := range cuts() {
			got := store.Fold(s, cut)
			ask(t, "Fold", got, wantFold(s, cut))
			ask(t, "of what was folded", store.Fold(got, cut), got)
			ask(t, "how many", len(got.Objects), len(s.Objects))
			askCheck(t, got, true)
			for _, o := range s.Objects {
				ask(t, "Find", store.Find(got, o.Kind, o.Key), object.Fold(o, cut))
				ask(t, "Read", store.Read(got, o.Kind, o.Key), thingReads(o.Kind))
			}
		}
	}
	want := storeOf(api.Object{Kind: 1, Key: "a", Cell: api.Cell{Kind: 1, Base: 3, Amounts: full(1).Amounts[1:]}}, api.Object{Kind: 3, Key: "a", Cell: full(3)})
	ask(t, "written out", store.Fold(storeOf(thing(1, "a"), thing(3, "a")), api.Vec{0, 1}), want)
}

// passing answers an object of a kind that is Empty behind a Fold by a cut with two of peer 1, and by no lesser one: additions that come to nothing, an element that is gone, a field with such an element.
func passing(kind int, key string) api.Object {
	gone := api.Cell{Kind: 5, Elems: []api.Elem{{Mark: mk(1, 1, 1), Text: "a", Gone: []api.Mark{mk(1, 2, 1)}}}}
	switch kind {
	case api.Counter:
		return api.Object{Kind: 1, Key: key, Cell: api.Cell{Kind: 1, Amounts: []api.Amount{{Mark: mk(1, 1, 1), N: 3}, {Mark: mk(1, 2, 1), N: -3}}}}
	case api.Seq:
		return api.Object{Kind: 5, Key: key, Cell: gone}
	}
	return api.Object{Kind: 6, Key: key, Fields: []api.Field{{Name: "f", Cell: gone}, {Name: "g", Cell: gone}}}
}

// P16.2: objects that are Empty behind Fold go, from the first place, from middle ones, from the last one, several, and all.
func TestFoldOfEmptied(t *testing.T) {
	all := []int{1, 5, 6}
	for _, kind := range all {
		o := passing(kind, "k")
		below, above := thing(kind, "a"), thing(kind, "z")
		for _, s := range []api.Store{storeOf(o), storeOf(o, above), storeOf(below, o), storeOf(below, o, above), storeOf(o, passing(kind, "l"), above), storeOf(below, o, passing(kind, "l"), passing(kind, "m"))} {
			askCheck(t, s, true)
			var left api.Store
			for _, p := range s.Objects {
				if p.Key == "a" || p.Key == "z" {
					left.Objects = append(left.Objects, object.Fold(p, api.Vec{0, 2}))
				}
			}
			ask(t, "goes", store.Fold(s, api.Vec{0, 2}), left)
			ask(t, "how many", len(store.Fold(s, api.Vec{0, 1}).Objects), len(s.Objects))
			ask(t, "stays", store.Fold(s, api.Vec{0, 0, 9}), wantFold(s, api.Vec{0, 0, 9}))
			ask(t, "Read", store.Read(store.Fold(s, api.Vec{0, 2}), kind, "k"), api.Value{Kind: kind})
		}
	}
	ask(t, "all", store.Fold(storeOf(passing(1, "a"), passing(1, "b"), passing(5, "a"), passing(6, "a")), everything()), api.Store{})
}
