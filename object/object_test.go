package object_test

import (
	"fmt"
	"math"
	"reflect"
	"slices"
	"strings"
	"testing"

	"plexus/api"
	"plexus/cell"
	"plexus/object"
	"plexus/ops"
	"plexus/ormap"
)

// textMost is how many bytes a key has at most, as the document has it.
const textMost = 64

// leaves are the kinds of leaves, as the document numbers them: Counter, Last, Many, Set, Seq.
func leaves() []int {
	return []int{1, 2, 3, 4, 5}
}

// kinds are the kinds that an object may be of: leaves, and Map.
func kinds() []int {
	return append(leaves(), 6)
}

// strangers are kinds that no object is of: Roster among them.
func strangers() []int {
	return []int{math.MinInt, math.MinInt + 1, -6, -5, -1, 0, 7, 8, 9, 257, 1<<32 + 1, math.MaxInt - 1, math.MaxInt}
}

// mk answers a Mark.
func mk(peer int, seq int, index int) api.Mark {
	return api.Mark{Dot: api.Dot{Peer: peer, Seq: seq}, Index: index}
}

// tx answers a transaction of that name and time that has seen deps, with these ops.
func tx(peer int, seq int, time int, deps api.Vec, l ...api.Op) api.Tx {
	return api.Tx{Dot: api.Dot{Peer: peer, Seq: seq}, Time: time, Deps: deps, Ops: l}
}

// everything is a vector of all that there may be.
func everything() api.Vec {
	var v api.Vec
	for p := 1; p < len(v); p++ {
		v[p] = api.MaxSeq
	}
	return v
}

// fresh answers an empty cell of a kind.
func fresh(kind int) api.Cell {
	return api.Cell{Kind: kind}
}

// full answers a cell of each kind that Checks, with things of the peers 1 and 2 in it.
func full(kind int) api.Cell {
	c := api.Cell{Kind: kind}
	switch kind {
	case api.Counter:
		c.Amounts = []api.Amount{{Mark: mk(1, 1, 1), N: 3}, {Mark: mk(2, 1, 1), N: -400}}
	case api.Last, api.Many:
		c.Writes = []api.Write{{Mark: mk(1, 1, 1), Time: 7, Text: "b"}, {Mark: mk(2, 1, 1), Time: 5, Text: "a"}}
	case api.Set:
		c.Members = []api.Member{{Text: "b", Marks: []api.Mark{mk(1, 1, 1), mk(2, 1, 1)}}, {Text: "c", Marks: []api.Mark{mk(1, 1, 1)}}}
	case api.Seq:
		c.Elems = []api.Elem{{Mark: mk(1, 1, 1), Time: 3, Text: "a"}, {Mark: mk(2, 1, 1), Time: 5, Ref: mk(1, 1, 1), Text: "c"}}
	}
	return c
}

// fullReads is what is read of a full cell.
func fullReads(kind int) api.Value {
	return map[int]api.Value{
		1: {Kind: 1, N: -397}, 2: {Kind: 2, Texts: []string{"b"}}, 3: {Kind: 3, Texts: []string{"a", "b"}},
		4: {Kind: 4, Texts: []string{"b", "c"}}, 5: {Kind: 5, Texts: []string{"a", "c"}},
	}[kind]
}

// gone answers a sequence with one element, which the op 1 2 1 took away.
func gone() api.Cell {
	return api.Cell{Kind: 5, Elems: []api.Elem{{Mark: mk(1, 1, 1), Time: 3, Text: "a", Gone: []api.Mark{mk(1, 2, 1)}}}}
}

// field answers a field of these marks, without Base.
func field(name string, c api.Cell, l ...api.Mark) api.Field {
	return api.Field{Name: name, Marks: l, Cell: c}
}

// old answers a field of these marks, with Base.
func old(name string, c api.Cell, l ...api.Mark) api.Field {
	return api.Field{Name: name, Base: true, Marks: l, Cell: c}
}

// several are fields of every kind: with Base alone, with marks alone, with both, with neither; with empty cells and others; some of one name and of unlike kinds.
func several() []api.Field {
	return []api.Field{
		old("a", fresh(api.Counter)),
		field("a", full(api.Set), mk(1, 1, 1), mk(2, 1, 1)),
		field("a", gone()),
		old("ab", full(api.Last), mk(2, 1, 1), mk(12, 4, 3)),
		field("b", api.Cell{Kind: api.Counter, Base: 5}),
		field("b", full(api.Seq), mk(1, 1, 1), mk(2, 1, 1)),
		field("\x80", fresh(api.Many), mk(1, 1, 1), mk(1, 1, 2), mk(2, 1, 1)),
		old("\xffz", full(api.Counter)),
	}
}

// severalRead is what is read of several fields.
func severalRead() api.Value {
	return value(number("a", 0), texts("a", 4, "b", "c"), texts("ab", 2, "b"), texts("b", 5, "a", "c"), texts("\x80", 3), number("\xffz", -397))
}

// leafOf answers the leaf k of a cell's kind, with that cell.
func leafOf(c api.Cell) api.Object {
	return api.Object{Kind: c.Kind, Key: "k", Cell: c}
}

// mapOf answers the map k of these fields.
func mapOf(l ...api.Field) api.Object {
	return api.Object{Kind: 6, Key: "k", Fields: l}
}

// newOf answers a new object of a kind, with the key k.
func newOf(kind int) api.Object {
	if kind == api.Map {
		return mapOf()
	}
	return leafOf(fresh(kind))
}

// named answers an object that is the same, but for its key.
func named(key string, o api.Object) api.Object {
	o.Key = key
	return o
}

// sound are objects that Check: of each kind, with and without something in them.
func sound() []api.Object {
	l := []api.Object{leafOf(gone()), leafOf(api.Cell{Kind: 1, Base: 5}), mapOf(several()...), mapOf(several()[2]), mapOf(several()[6]), named(strings.Repeat("k", textMost), mapOf(several()...))}
	for _, kind := range kinds() {
		l = append(l, newOf(kind), named("\x00", newOf(kind)))
	}
	for _, kind := range leaves() {
		l = append(l, leafOf(full(kind)), named(strings.Repeat("ä", textMost/2), leafOf(full(kind))), mapOf(old("f", full(kind), mk(1, 1, 1))), mapOf(field("f", fresh(kind), mk(2, 1, 1))))
	}
	return l
}

// wrongLeaves are leaves that do not Check, by their Cell or their Fields alone.
func wrongLeaves() []api.Object {
	var l []api.Object
	for _, kind := range leaves() {
		leaf := func(c api.Cell, f ...api.Field) {
			l = append(l, api.Object{Kind: kind, Key: "k", Cell: c, Fields: f})
		}
		for _, other := range append(kinds(), strangers()...) {
			if other != kind {
				leaf(fresh(other))
				leaf(full(other))
			}
		}
		for _, f := range [][]api.Field{{{}}, several(), several()[:1], {field("f", full(kind))}, {old("b", fresh(1)), old("a", fresh(1))}} {
			leaf(fresh(kind), f...)
			leaf(full(kind), f...)
			leaf(api.Cell{}, f...)
		}
		// Of its own kind, and layer 12 refuses it: what belongs to another one, what may not be.
		for _, other := range leaves() {
			c := full(other)
			c.Kind = kind
			if !cell.Check(c) {
				leaf(c)
			}
		}
		c := full(kind)
		c.Base = 1<<60 + 1
		leaf(c)
		c = full(kind)
		c.Amounts, c.Elems = append(c.Amounts, api.Amount{}), append(c.Elems, api.Elem{})
		leaf(c)
	}
	return l
}

// wrongMaps are maps that do not Check, by their Cell or their Fields alone.
func wrongMaps() []api.Object {
	cells := []api.Cell{
		{Kind: 1}, {Kind: -1}, {Kind: 6}, {Kind: 7}, {Kind: math.MinInt}, {Base: 1}, {Base: -1}, {Base: math.MaxInt},
		{Amounts: []api.Amount{{}}}, {Writes: []api.Write{{}}}, {Members: []api.Member{{}}}, {Elems: []api.Elem{{}}}, gone(),
	}
	for _, kind := range leaves() {
		c := full(kind)
		cells = append(cells, c)
		c.Kind = 0
		cells = append(cells, c)
	}
	var l []api.Object
	for _, c := range cells {
		for _, f := range [][]api.Field{nil, several(), several()[2:3]} {
			l = append(l, api.Object{Kind: 6, Key: "k", Cell: c, Fields: f})
		}
	}
	return append(l,
		mapOf(api.Field{}), mapOf(field("f", fresh(4))), mapOf(old("f", fresh(6))), mapOf(old("f", api.Cell{})), mapOf(old("", full(1))), mapOf(old(strings.Repeat("x", textMost+1), full(1))),
		mapOf(old("b", fresh(1)), old("a", fresh(1))), mapOf(old("a", fresh(2)), old("a", fresh(1))), mapOf(old("a", full(2)), old("a", full(2))),
		mapOf(old("f", full(2), mk(1, 1, 0))), mapOf(field("f", full(2), mk(2, 1, 1), mk(1, 1, 1))), mapOf(append(several(), several()[0])...), mapOf(old("f", api.Cell{Kind: 2, Base: 1})))
}

// wrong are objects that do not Check: by their Kind, by their Key, by what is in them.
func wrong() []api.Object {
	l := []api.Object{{}, {Key: "k"}, {Kind: 1}, {Kind: 6}}
	for _, kind := range strangers() {
		l = append(l, leafOf(fresh(kind)), api.Object{Kind: kind, Key: "k"}, api.Object{Kind: kind, Key: "k", Cell: full(1)}, api.Object{Kind: kind, Key: "k", Fields: several()})
	}
	for _, o := range sound() {
		for _, n := range []int{0, textMost + 1, textMost + 2, 1000} {
			l = append(l, named(strings.Repeat("k", n), o))
		}
	}
	return slices.Concat(l, wrongLeaves(), wrongMaps())
}

// plain answers a value that is the same, of new memory, with nil for each list that has nothing in it.
func plain(v reflect.Value) reflect.Value {
	made := reflect.New(v.Type()).Elem()
	switch v.Kind() {
	case reflect.Slice:
		for k := range v.Len() {
			made.Set(reflect.Append(made, plain(v.Index(k))))
		}
	case reflect.Struct:
		for k := range v.NumField() {
			made.Field(k).Set(plain(v.Field(k)))
		}
	default:
		made.Set(v)
	}
	return made
}

// same tells whether two values are the same; nil and empty lists are.
func same[T any](a T, b T) bool {
	return reflect.DeepEqual(plain(reflect.ValueOf(a)).Interface(), plain(reflect.ValueOf(b)).Interface())
}

// ask holds an answer against what is wanted.
func ask[T any](t *testing.T, what string, got T, want T) {
	t.Helper()
	if !same(got, want) {
		t.Errorf("%s: %+v, want %+v", what, got, want)
	}
}

// askCheck asks Check.
func askCheck(t *testing.T, o api.Object, want bool) {
	t.Helper()
	if got := object.Check(o); got != want {
		t.Errorf("Check(%+v) = %v, want %v", o, got, want)
	}
}

// askEmpty asks Empty.
func askEmpty(t *testing.T, o api.Object, want bool) {
	t.Helper()
	if got := object.Empty(o); got != want {
		t.Errorf("Empty(%+v) = %v, want %v", o, got, want)
	}
}

// askNew asks New.
func askNew(t *testing.T, kind int, key string, want api.Object, wantErr api.Errno) {
	t.Helper()
	got, err := object.New(kind, key)
	if err != wantErr || !same(got, want) {
		t.Errorf("New(%d, %q) = %+v, %d, want %+v, %d", kind, key, got, err, want, wantErr)
	}
}

// value answers a map's value.
func value(l ...api.Named) api.Value {
	return api.Value{Kind: 6, Fields: l}
}

// number answers the value of a field with a Counter.
func number(name string, n int) api.Named {
	return api.Named{Name: name, Value: api.Value{Kind: 1, N: n}}
}

// texts answers the value of a field of another kind.
func texts(name string, kind int, l ...string) api.Named {
	return api.Named{Name: name, Value: api.Value{Kind: kind, Texts: l}}
}

// change answers an op that changes the leaf k of a kind, by an act that its kind takes.
func change(kind int, n int, text string) api.Op {
	return filled(api.Op{Kind: kind, Key: "k"}, kind, n, text)
}

// inside answers an op that changes a field of the map k.
func inside(name string, inner int, n int, text string) api.Op {
	return filled(api.Op{Kind: 6, Key: "k", Field: name, Inner: inner}, inner, n, text)
}

// drop answers an op that drops a field of the map k.
func drop(name string, inner int) api.Op {
	return api.Op{Kind: 6, Key: "k", Field: name, Inner: inner, Act: 5}
}

// filled answers an op with an act that a leaf's kind takes, and what that uses.
func filled(o api.Op, kind int, n int, text string) api.Op {
	switch kind {
	case api.Counter:
		o.Act, o.N = api.ActAdd, n
	case api.Last, api.Many:
		o.Act, o.Text = api.ActPut, text
	case api.Set:
		o.Act, o.Text = api.ActAdd, text
	case api.Seq:
		o.Act, o.Text = api.ActIns, text
	}
	return o
}

// opsOf answers ops that may be, of each act that an object of a kind takes.
func opsOf(kind int) []api.Op {
	o := api.Op{Kind: kind, Key: "k"}
	switch kind {
	case api.Set:
		o.Act, o.Text = api.ActDel, "b"
		return []api.Op{change(4, 0, "b"), change(4, 0, "t"), o}
	case api.Seq:
		o.Act, o.Ref = api.ActDel, mk(1, 1, 1)
		behind, own := change(5, 0, "u"), change(5, 0, "v")
		behind.Ref, own.Ref = mk(1, 1, 1), mk(0, 0, 1)
		return []api.Op{change(5, 0, "t"), o, behind, own}
	case api.Map:
		var l []api.Op
		for _, inner := range leaves() {
			for _, name := range []string{"a", "b", "n"} {
				for _, x := range opsOf(inner) {
					x.Kind, x.Field, x.Inner = 6, name, inner
					l = append(l, x)
				}
				l = append(l, drop(name, inner))
			}
		}
		return l
	}
	return []api.Op{change(kind, 7, "t"), change(kind, 0, "")}
}

// mayBe tells what the document asks of Check.
func mayBe(o api.Object) bool {
	if o.Kind < 1 || o.Kind > 6 || len(o.Key) < 1 || len(o.Key) > textMost {
		return false
	}
	if o.Kind == 6 {
		return same(o.Cell, api.Cell{}) && ormap.Check(o.Fields)
	}
	return o.Cell.Kind == o.Kind && cell.Check(o.Cell) && len(o.Fields) == 0
}

// wantDo answers what the document asks of Do.
func wantDo(o api.Object, x api.Tx, i int) api.Object {
	if !mayBe(o) || i < 1 || i > len(x.Ops) {
		return o
	}
	op := x.Ops[i-1]
	switch {
	case op.Kind != o.Kind || op.Key != o.Key || !ops.CheckOp(op):
	case o.Kind != api.Map:
		o.Cell = cell.Do(o.Cell, x, i, op)
	case op.Act == api.ActDrop:
		o.Fields = ormap.Drop(o.Fields, x, i, op.Field, op.Inner)
	default:
		o.Fields = ormap.Do(o.Fields, x, i, op)
	}
	return o
}

// wantFold answers what the document asks of Fold.
func wantFold(o api.Object, cut api.Vec) api.Object {
	switch {
	case !mayBe(o):
	case o.Kind == api.Map:
		o.Fields = ormap.Fold(o.Fields, cut)
	default:
		o.Cell = cell.Fold(o.Cell, cut)
	}
	return o
}

// P14.1, P14.2: the chapter's example.
func TestExample(t *testing.T) {
	o, err := object.New(api.Counter, "a")
	if err != api.OK {
		t.Error(err)
	}
	ask(t, "New", o, api.Object{Kind: 1, Key: "a", Cell: api.Cell{Kind: 1}})
	ask(t, "Read", object.Read(o), api.Value{Kind: 1})
}

// P14.1: New of each kind: a leaf's Cell is layer 12's New, a map has neither a Cell nor Fields.
func TestNew(t *testing.T) {
	for _, key := range []string{"k", "\x00", "\xff", " ", strings.Repeat("x", 63), strings.Repeat("x", 64), strings.Repeat("ä", 32)} {
		for _, kind := range leaves() {
			askNew(t, kind, key, api.Object{Kind: kind, Key: key, Cell: api.Cell{Kind: kind}}, 0)
		}
		askNew(t, 6, key, api.Object{Kind: 6, Key: key}, 0)
	}
	for _, kind := range kinds() {
		o, _ := object.New(kind, "k")
		askCheck(t, o, true)
		askEmpty(t, o, true)
		ask(t, "Read", object.Read(o), api.Value{Kind: kind})
	}
}

// P14.1: New of another kind, and of a key that is empty or too long, or of both: ErrArg, and all else is zero.
func TestNewOfWrong(t *testing.T) {
	for _, kind := range strangers() {
		for _, key := range []string{"", "k", strings.Repeat("k", 64), strings.Repeat("k", 65)} {
			askNew(t, kind, key, api.Object{}, 2)
		}
	}
	for _, kind := range kinds() {
		for _, key := range []string{"", strings.Repeat("k", 65), strings.Repeat("ä", 32) + "k", strings.Repeat("ä", 33), strings.Repeat("k", 1000)} {
			askNew(t, kind, key, api.Object{}, 2)
		}
	}
	for kind := -3; kind < 12; kind++ {
		for n := range 2*textMost + 3 {
			_, err := object.New(kind, strings.Repeat("k", n))
			if may := kind >= 1 && kind <= 6 && n >= 1 && n <= 64; (err == api.OK) != may {
				t.Errorf("New(%d, %d bytes): %d", kind, n, err)
			}
		}
	}
}

// P14.1: what may be; empty lists are as nil ones, of a map's Cell too.
func TestCheckOfSound(t *testing.T) {
	for _, o := range sound() {
		askCheck(t, o, true)
		askCheck(t, roomy(o), true)
	}
	o := mapOf(several()...)
	o.Cell = api.Cell{Amounts: full(1).Amounts[:0], Writes: []api.Write{}, Members: []api.Member{}, Elems: []api.Elem{}}
	askCheck(t, o, true)
	o = leafOf(full(1))
	o.Fields = several()[:0]
	askCheck(t, o, true)
}

// P14.1: what may not.
func TestCheckOfWrong(t *testing.T) {
	for _, o := range wrong() {
		askCheck(t, o, false)
		askCheck(t, roomy(o), false)
	}
}

// P14.1: a Key has 1 to MaxText bytes, a Kind is from Counter to Map.
func TestCheckNames(t *testing.T) {
	for n := range 2*textMost + 2 {
		for _, kind := range kinds() {
			askCheck(t, named(strings.Repeat("x", n), newOf(kind)), n >= 1 && n <= 64)
			askCheck(t, named(strings.Repeat("ä", n), newOf(kind)), n >= 1 && n <= 32)
		}
	}
	for kind := -3; kind < 12; kind++ {
		askCheck(t, leafOf(fresh(kind)), kind >= 1 && kind <= 5)
		askCheck(t, api.Object{Kind: kind, Key: "k"}, kind == 6)
		askCheck(t, api.Object{Kind: kind, Key: "k", Fields: several()}, kind == 6)
	}
}

// P14.1: a leaf's Cell is of its Kind, and a map's is zero: of all pairs of kinds.
func TestCheckCellKinds(t *testing.T) {
	for _, kind := range append(kinds(), strangers()...) {
		for _, other := range append(kinds(), strangers()...) {
			leaf := kind == other && kind >= 1 && kind <= 5
			askCheck(t, api.Object{Kind: kind, Key: "k", Cell: fresh(other)}, leaf || kind == 6 && other == 0)
			askCheck(t, api.Object{Kind: kind, Key: "k", Cell: full(other)}, leaf || kind == 6 && other == 0)
			askCheck(t, api.Object{Kind: kind, Key: "k", Cell: full(other), Fields: several()}, kind == 6 && other == 0)
		}
	}
}

// P14.1: Empty of objects that Check: a leaf by its Cell, a map by its Fields, one that is not read among them.
func TestEmpty(t *testing.T) {
	for _, kind := range kinds() {
		askEmpty(t, newOf(kind), true)
		askEmpty(t, roomy(newOf(kind)), true)
		askEmpty(t, named(strings.Repeat("k", textMost), newOf(kind)), true)
	}
	for _, kind := range leaves() {
		askEmpty(t, leafOf(full(kind)), false)
		askEmpty(t, mapOf(field("f", full(kind))), false)
		askEmpty(t, mapOf(old("f", fresh(kind))), false)
		askEmpty(t, mapOf(field("f", fresh(kind), mk(1, 1, 1))), false)
	}
	for _, c := range []api.Cell{gone(), {Kind: 1, Base: 5}, {Kind: 1, Base: -5}, {Kind: 1, Amounts: []api.Amount{{Mark: mk(1, 1, 1)}}}} {
		askEmpty(t, leafOf(c), false)
		askEmpty(t, mapOf(field("f", c)), false)
	}
	for _, o := range sound() {
		askEmpty(t, o, o.Kind == 6 && len(o.Fields) == 0 || o.Kind != 6 && cell.Empty(o.Cell))
	}
}

// P14.1: Empty of objects that do not Check is false, though there be nothing in them.
func TestEmptyOfWrong(t *testing.T) {
	for _, o := range wrong() {
		askEmpty(t, o, false)
		askEmpty(t, roomy(o), false)
	}
}

// P14.1: each call of an object that does not Check answers it as it is; Read the zero Value, Leaf the zero cell.
func TestCallsOfWrong(t *testing.T) {
	for _, o := range wrong() {
		var l []api.Op
		for _, kind := range kinds() {
			for _, x := range []api.Op{opsOf(kind)[0], drop("f", kind)} {
				x.Key = o.Key
				l = append(l, x)
				x.Kind = o.Kind
				l = append(l, x)
			}
		}
		x := tx(3, 9, 5, everything(), l...)
		for i := -1; i < len(l)+2; i++ {
			ask(t, "Do", object.Do(o, x, i), o)
		}
		ask(t, "Fold", object.Fold(o, everything()), o)
		ask(t, "Fold", object.Fold(o, api.Vec{}), o)
		ask(t, "Read", object.Read(o), api.Value{})
		for _, inner := range append(kinds(), o.Kind, o.Cell.Kind, 0) {
			for _, name := range []string{"", "a", "f", "n"} {
				ask(t, "Leaf", object.Leaf(o, name, inner), api.Cell{})
			}
		}
		for _, f := range o.Fields {
			ask(t, "Leaf", object.Leaf(o, f.Name, f.Cell.Kind), api.Cell{})
		}
	}
}

// P14.2: Do of a leaf is layer 12's, of each act that its kind takes, upon new ones and others.
func TestDoOfLeaves(t *testing.T) {
	for _, kind := range leaves() {
		for _, op := range opsOf(kind) {
			for _, deps := range []api.Vec{{}, {0, 1}, everything()} {
				x := tx(3, 1, 6, deps, op)
				ask(t, "of a new one", object.Do(newOf(kind), x, 1), leafOf(cell.Do(fresh(kind), x, 1, op)))
				ask(t, "of a full one", object.Do(leafOf(full(kind)), x, 1), leafOf(cell.Do(full(kind), x, 1, op)))
			}
		}
		was := leafOf(full(kind))
		if same(object.Do(was, tx(3, 1, 6, everything(), opsOf(kind)[0]), 1), was) {
			t.Errorf("nothing is done to %d", kind)
		}
	}
	c := api.Cell{Kind: 1, Amounts: append(full(1).Amounts, api.Amount{Mark: mk(3, 1, 1), N: 7})}
	ask(t, "written out", object.Do(leafOf(full(1)), tx(3, 1, 6, api.Vec{}, change(1, 7, "")), 1), leafOf(c))
	c = api.Cell{Kind: 2, Writes: []api.Write{full(2).Writes[1], {Mark: mk(3, 1, 1), Time: 6, Text: "t"}}}
	ask(t, "written out", object.Do(leafOf(full(2)), tx(3, 1, 6, api.Vec{0, 1}, change(2, 0, "t")), 1), leafOf(c))
}

// P14.2: Do of a map is layer 13's Drop by ActDrop, and layer 13's Do by all other acts.
func TestDoOfMaps(t *testing.T) {
	for _, l := range [][]api.Field{nil, several(), several()[1:3], several()[5:6]} {
		for _, op := range opsOf(6) {
			for _, deps := range []api.Vec{{}, {0, 1}, everything()} {
				x := tx(3, 1, 6, deps, op)
				want := mapOf(ormap.Do(l, x, 1, op)...)
				if op.Act == api.ActDrop {
					want = mapOf(ormap.Drop(l, x, 1, op.Field, op.Inner)...)
				}
				ask(t, "Do", object.Do(mapOf(l...), x, 1), want)
			}
		}
	}
	o := object.Do(mapOf(), tx(3, 1, 6, api.Vec{}, inside("f", 1, 7, "")), 1)
	ask(t, "written out", o, mapOf(field("f", api.Cell{Kind: 1, Amounts: []api.Amount{{Mark: mk(3, 1, 1), N: 7}}}, mk(3, 1, 1))))
	ask(t, "dropped by one that has seen it", object.Do(o, tx(4, 1, 6, api.Vec{0, 0, 0, 1}, drop("f", 1)), 1), mapOf())
	ask(t, "dropped by one that has not", object.Do(o, tx(4, 1, 6, api.Vec{}, drop("f", 1)), 1), o)
	ask(t, "one of another kind dropped", object.Do(o, tx(4, 1, 6, everything(), drop("f", 2)), 1), o)
	ask(t, "one of another name dropped", object.Do(o, tx(4, 1, 6, everything(), drop("g", 1)), 1), o)
}

// P14.2: i is from 1 to the number of the ops; of another one the object is as it is. The op is the one at that place, and has that place in its Mark.
func TestDoPlaces(t *testing.T) {
	for _, kind := range append(leaves(), 6) {
		for n := range 5 {
			var l []api.Op
			for k := range n {
				op := change(kind, 10+k, fmt.Sprint("t", k))
				if kind == api.Map {
					op = inside(fmt.Sprint("f", k), 1, 10+k, "")
				}
				l = append(l, op)
			}
			x := tx(3, 1, 6, api.Vec{}, l...)
			for _, i := range []int{math.MinInt, math.MinInt + 1, -n, -1, 0, n + 1, n + 2, math.MaxInt - 1, math.MaxInt} {
				for _, o := range sound() {
					ask(t, "no op", object.Do(o, x, i), o)
				}
			}
			for i := 1; i <= n; i++ {
				v := object.Read(object.Do(newOf(kind), x, i))
				switch {
				case kind == api.Counter:
					ask(t, "the op there", v.N, 9+i)
				case kind == api.Map:
					ask(t, "the op there", v, value(number(fmt.Sprint("f", i-1), 9+i)))
				default:
					ask(t, "the op there", v.Texts, []string{fmt.Sprint("t", i-1)})
				}
				ask(t, "Do", object.Do(newOf(kind), x, i), wantDo(newOf(kind), x, i))
			}
		}
	}
	x := tx(3, 1, 6, api.Vec{}, change(1, 7, ""), change(1, 8, ""))
	ask(t, "its mark", object.Do(newOf(1), x, 2).Cell.Amounts, []api.Amount{{Mark: mk(3, 1, 2), N: 8}})
	ask(t, "both", object.Read(object.Do(object.Do(newOf(1), x, 2), x, 1)).N, 15)
}

// P14.2: of a list of ops its length alone counts: what room it has behind its end is no op.
func TestDoPlacesBehindTheEnd(t *testing.T) {
	l := []api.Op{change(1, 7, ""), change(1, 8, "")}
	x := tx(3, 1, 6, api.Vec{}, l[:1]...)
	ask(t, "behind the end", object.Do(newOf(1), x, 2), newOf(1))
	x.Ops = l[:0]
	ask(t, "behind the end", object.Do(newOf(1), x, 1), newOf(1))
}

// P14.2: an op of another Kind, of another Key, or of both: as it is.
func TestDoOfOtherObjects(t *testing.T) {
	keys := []string{"k", "kk", "K", "k\x00", "j", "\x00k", strings.Repeat("k", 64)}
	for _, kind := range kinds() {
		given := []api.Object{newOf(kind), mapOf(several()...)}
		if kind != api.Map {
			given[1] = leafOf(full(kind))
		}
		for _, other := range kinds() {
			for _, a := range keys {
				for _, b := range keys {
					op := opsOf(other)[0]
					op.Key = b
					if !ops.CheckOp(op) {
						t.Errorf("%+v may not be", op)
					}
					x := tx(3, 1, 6, everything(), op)
					for _, o := range given {
						o.Key = a
						got := object.Do(o, x, 1)
						ask(t, "Do", got, wantDo(o, x, 1))
						if same(got, o) != (kind != other || a != b) {
							t.Errorf("%+v upon %+v: %+v", op, o, got)
						}
					}
				}
			}
		}
		roster := tx(3, 1, 6, everything(), api.Op{Kind: 7, Act: api.ActAdd, N: 2})
		for _, o := range given {
			ask(t, "of the roster", object.Do(o, roster, 1), o)
		}
	}
}

// refused answers ops of the object k of a kind that CheckOp refuses, for each reason that chapter 7 names: each is one that may be, with one thing turned. Some of them layers 12 and 13 would do.
func refused(kind int) []api.Op {
	var l []api.Op
	turned := func(o api.Op, turn func(*api.Op)) {
		turn(&o)
		l = append(l, o)
	}
	for _, o := range opsOf(kind) {
		leaf := o.Kind
		if o.Kind == api.Map {
			leaf = o.Inner
		}
		if o.Field > "a" {
			continue
		}
		for _, act := range []int{math.MinInt, -1, 0, 1, 2, 3, 4, 5, 6, math.MaxInt} {
			turned(o, func(o *api.Op) { o.Act = act })
		}
		for _, n := range []int{1 << 30, 1<<30 + 1, -1 << 30, -1<<30 - 1, math.MinInt, math.MaxInt, 1, -1, 7} {
			turned(o, func(o *api.Op) { o.N = n })
		}
		for _, text := range []string{"", "x", strings.Repeat("x", 64), strings.Repeat("x", 65), strings.Repeat("x", 1000)} {
			turned(o, func(o *api.Op) { o.Text = text })
		}
		for _, m := range []api.Mark{mk(1, 1, 1), mk(0, 0, 1), mk(0, 0, 0), mk(1, 1, 0), mk(1, 1, 16), mk(1, 1, 17), mk(1, 1, -1), mk(0, 1, 1), mk(1, 0, 1), mk(13, 1, 1), mk(-1, 1, 1), mk(1, 1<<20, 1), mk(1, 1<<20+1, 1), mk(0, 0, 17), mk(0, 0, -1)} {
			turned(o, func(o *api.Op) { o.Ref = m })
		}
		for _, name := range []string{"", "f", strings.Repeat("f", 64), strings.Repeat("f", 65)} {
			turned(o, func(o *api.Op) { o.Field = name })
		}
		for _, inner := range append(kinds(), strangers()...) {
			turned(o, func(o *api.Op) { o.Inner = inner })
		}
		turned(o, func(o *api.Op) { o.Field, o.Inner = "f", leaf })
	}
	return slices.DeleteFunc(l, ops.CheckOp)
}

// P14.2: an op that CheckOp refuses, for each reason, does nothing.
func TestDoOfRefused(t *testing.T) {
	for _, kind := range kinds() {
		l := refused(kind)
		would := 0
		given := []api.Object{newOf(kind), leafOf(full(kind))}
		if kind == api.Map {
			given[1] = mapOf(several()...)
		}
		for _, o := range given {
			for _, op := range l {
				x := tx(3, 1, 6, everything(), op)
				ask(t, "refused", object.Do(o, x, 1), o)
				if kind == api.Map && !same(ormap.Do(o.Fields, x, 1, op), o.Fields) || kind != api.Map && !same(cell.Do(o.Cell, x, 1, op), o.Cell) {
					would++
				}
			}
		}
		if would < 20 {
			t.Errorf("of kind %d the layer below refuses nearly all of %d, too", kind, len(l))
		}
	}
}

// P14.2: an op whose Key may not be is no object's, though the object have that one.
func TestDoOfWrongKeys(t *testing.T) {
	for _, key := range []string{"", strings.Repeat("k", 65)} {
		for _, kind := range kinds() {
			op := opsOf(kind)[0]
			op.Key = key
			o := named(key, newOf(kind))
			ask(t, "Do", object.Do(o, tx(3, 1, 6, everything(), op), 1), o)
		}
	}
}

// P14.2: nothing else is asked of the transaction: neither its name, its time, what it has seen, nor its other ops.
func TestDoAsksTheOpAlone(t *testing.T) {
	for _, kind := range kinds() {
		for _, op := range opsOf(kind)[:2] {
			l := make([]api.Op, 20)
			l[0], l[16], l[19] = op, op, op
			for _, x := range []api.Tx{{Ops: l}, tx(13, -1, -1, api.Vec{-1, -1, 5}, l...)} {
				for _, i := range []int{1, 2, 17, 20} {
					ask(t, "Do", object.Do(newOf(kind), x, i), wantDo(newOf(kind), x, i))
				}
			}
		}
	}
}

// P14.2: the same op done twice is done once.
func TestDoTwice(t *testing.T) {
	for _, o := range sound() {
		for _, op := range opsOf(o.Kind) {
			op.Key = o.Key
			for _, deps := range []api.Vec{{}, {0, 1}, everything()} {
				x := tx(3, 1, 6, deps, op)
				once := object.Do(o, x, 1)
				ask(t, "twice", object.Do(once, x, 1), once)
			}
		}
	}
}

// cuts are cuts that have none, some and all of the Dots.
func cuts() []api.Vec {
	return []api.Vec{{}, {9, 0, 0, 9, 9}, {0, 1}, {0, 0, 1}, {0, 2}, {0, 2, 1}, everything()}
}

// P14.2: Fold is that of the Cell, or of the Fields, and changes neither Kind nor Key.
func TestFold(t *testing.T) {
	for _, cut := range cuts() {
		for _, o := range sound() {
			want := o
			if o.Kind == api.Map {
				want.Fields = ormap.Fold(o.Fields, cut)
			} else {
				want.Cell = cell.Fold(o.Cell, cut)
			}
			got := object.Fold(o, cut)
			ask(t, "Fold", got, want)
			ask(t, "Fold of what was folded", object.Fold(got, cut), got)
			ask(t, "Read", object.Read(got), object.Read(o))
			askCheck(t, got, true)
		}
	}
	some := api.Cell{Kind: 1, Base: 3, Amounts: full(1).Amounts[1:]}
	ask(t, "of some", object.Fold(leafOf(full(1)), api.Vec{0, 1}), leafOf(some))
	ask(t, "of all", object.Fold(leafOf(full(1)), everything()), leafOf(api.Cell{Kind: 1, Base: -397}))
	ask(t, "of registers", object.Fold(leafOf(full(3)), everything()), leafOf(full(3)))
	ask(t, "of a map", object.Fold(mapOf(field("f", full(1), mk(1, 1, 1), mk(2, 1, 1))), api.Vec{0, 1}), mapOf(old("f", some, mk(2, 1, 1))))
}

// P14.2: Read is that of the Cell, or of the Fields.
func TestRead(t *testing.T) {
	for _, kind := range leaves() {
		ask(t, "a leaf", object.Read(leafOf(full(kind))), fullReads(kind))
		ask(t, "a map", object.Read(mapOf(old("f", full(kind)))), value(api.Named{Name: "f", Value: fullReads(kind)}))
		ask(t, "of none", object.Read(mapOf(field("f", full(kind)))), value())
		ask(t, "of none", object.Read(newOf(kind)), api.Value{Kind: kind})
	}
	ask(t, "several", object.Read(mapOf(several()...)), severalRead())
	ask(t, "of none", object.Read(mapOf()), value())
	for _, o := range sound() {
		if o.Kind == api.Map {
			ask(t, "Read", object.Read(o), ormap.Read(o.Fields))
		} else {
			ask(t, "Read", object.Read(o), cell.Read(o.Cell))
		}
	}
}

// fieldNames are names of fields that are there, and of others, some of which no field may have.
func fieldNames() []string {
	return []string{"", "\x00", "A", "a", "a\x00", "aa", "ab", "abc", "b", "f", "n", "\x80", "\xff", "\xffz", strings.Repeat("z", 64), strings.Repeat("z", 65)}
}

// P14.2: Leaf of a leaf is its Cell, whatever field and inner are.
func TestLeafOfLeaves(t *testing.T) {
	for _, o := range sound() {
		if o.Kind == api.Map {
			continue
		}
		for _, name := range append(fieldNames(), o.Key) {
			for _, inner := range append(kinds(), strangers()...) {
				ask(t, "Leaf", object.Leaf(o, name, inner), o.Cell)
			}
		}
	}
}

// P14.2: Leaf of a map is the Cell of that field and kind, whether it is read or not; without one it is an empty cell of that kind, and zero if no leaf is of it.
func TestLeafOfMaps(t *testing.T) {
	for _, l := range [][]api.Field{nil, several(), several()[2:5], {field("f", full(2))}} {
		for _, name := range fieldNames() {
			for _, inner := range append(kinds(), strangers()...) {
				k := slices.IndexFunc(l, func(f api.Field) bool { return f.Name == name && f.Cell.Kind == inner })
				want := api.Cell{}
				switch {
				case k >= 0:
					want = l[k].Cell
				case inner >= 1 && inner <= 5:
					want = fresh(inner)
				}
				ask(t, fmt.Sprintf("Leaf of %q, %d", name, inner), object.Leaf(mapOf(l...), name, inner), want)
			}
		}
	}
	o := mapOf(several()...)
	ask(t, "not read, and found", object.Leaf(o, "a", 5), gone())
	ask(t, "not read, and found", object.Leaf(o, "b", 1), api.Cell{Kind: 1, Base: 5})
	ask(t, "another kind", object.Leaf(o, "b", 2), fresh(2))
	ask(t, "another name", object.Leaf(o, "c", 4), fresh(4))
	ask(t, "no leaf's kind", object.Leaf(o, "a", 6), api.Cell{})
	ask(t, "the key", object.Leaf(o, "k", 3), fresh(3))
}

// P14.1, P14.2: a map has no Fields any more behind a drop, and is Empty; of a sequence that is so behind Fold, which the drop's own Dot must be below.
func TestMapsThatBecomeEmpty(t *testing.T) {
	for _, inner := range leaves() {
		o := object.Do(mapOf(), tx(1, 1, 1, api.Vec{}, inside("f", inner, 7, "t")), 1)
		askEmpty(t, o, false)
		left := object.Do(o, tx(2, 1, 2, api.Vec{0, 1}, drop("f", inner)), 1)
		askEmpty(t, left, inner != api.Seq)
		ask(t, "Read", object.Read(left), value())
		askEmpty(t, object.Fold(left, api.Vec{0, 1}), inner != api.Seq)
		ask(t, "Fold", object.Fold(left, api.Vec{0, 1, 1}), mapOf())
		askEmpty(t, object.Fold(left, api.Vec{0, 1, 1}), true)
		if inner == api.Seq {
			ask(t, "not read, and found", object.Leaf(left, "f", 5).Elems, []api.Elem{{Mark: mk(1, 1, 1), Time: 1, Text: "t", Gone: []api.Mark{mk(2, 1, 1)}}})
		}
		ask(t, "Leaf", object.Leaf(object.Fold(left, everything()), "f", inner), fresh(inner))
		again := object.Do(object.Fold(left, everything()), tx(3, 1, 3, api.Vec{0, 1, 1}, inside("f", inner, 7, "t")), 1)
		ask(t, "Read", object.Read(again), object.Read(o))
	}
}

// P14.1: a leaf that additions and removals came back to nothing of is Empty, one whose additions are still told is not.
func TestLeavesThatBecomeEmpty(t *testing.T) {
	del := api.Op{Kind: 4, Key: "k", Act: api.ActDel, Text: "t"}
	o := object.Do(newOf(4), tx(1, 1, 1, api.Vec{}, change(4, 0, "t")), 1)
	askEmpty(t, o, false)
	askEmpty(t, object.Do(o, tx(2, 1, 2, api.Vec{}, del), 1), false)
	askEmpty(t, object.Do(o, tx(2, 1, 2, api.Vec{0, 1}, del), 1), true)
	x := tx(1, 1, 1, api.Vec{}, change(1, 7, ""), change(1, -7, ""))
	o = object.Do(object.Do(newOf(1), x, 1), x, 2)
	askEmpty(t, o, false)
	askEmpty(t, object.Fold(o, api.Vec{0, 1}), true)
	del = api.Op{Kind: 5, Key: "k", Act: api.ActDel, Ref: mk(1, 1, 1)}
	o = object.Do(newOf(5), tx(1, 1, 1, api.Vec{}, change(5, 0, "t")), 1)
	o = object.Do(o, tx(2, 1, 2, api.Vec{0, 1}, del), 1)
	ask(t, "Read", object.Read(o), api.Value{Kind: 5})
	askEmpty(t, o, false)
	askEmpty(t, object.Fold(o, api.Vec{0, 1}), false)
	askEmpty(t, object.Fold(o, api.Vec{0, 1, 1}), true)
}

// P14.3: what an object becomes Checks, is of the Kind and Key that it was, and is what the document's words say, told plainly.
func TestWhatItBecomes(t *testing.T) {
	for _, o := range sound() {
		for _, deps := range []api.Vec{{}, {0, 1}, everything()} {
			var l []api.Op
			for _, kind := range kinds() {
				for _, op := range opsOf(kind) {
					op.Key = o.Key
					l = append(l, op)
				}
			}
			for _, x := range []api.Tx{tx(1, 1, 9, deps, l...), tx(3, 1, -2, deps, l...), {Deps: deps, Ops: l}} {
				for i := range len(l) + 2 {
					got := object.Do(o, x, i)
					ask(t, "Do", got, wantDo(o, x, i))
					askCheck(t, got, true)
					if got.Kind != o.Kind || got.Key != o.Key {
						t.Errorf("%+v becomes %+v", o, got)
					}
				}
			}
		}
	}
}

// calls are calls of each function that answers an object.
func calls(o api.Object) []func(api.Object) api.Object {
	var l []api.Op
	for _, op := range append(opsOf(1)[:1], opsOf(4)...) {
		l = append(l, op)
	}
	l = append(l, opsOf(5)...)
	l = append(l, inside("a", 4, 0, "b"), inside("n", 5, 0, "u"), drop("a", 4), drop("a", 1), drop("n", 2), change(2, 0, "w"), inside("", 1, 7, ""))
	for i := range l {
		l[i].Key = o.Key
	}
	var all []func(api.Object) api.Object
	for _, deps := range []api.Vec{{}, {0, 1}, everything(), {9, 1, math.MaxInt, -4, 1, 1, 1, 1, 1, 1, 1, 1, math.MinInt}} {
		for _, x := range []api.Tx{tx(1, 1, 3, deps, l...), tx(13, 1, -9, deps, l...), {Deps: deps, Ops: l}} {
			for i := range len(l) + 2 {
				all = append(all, func(o api.Object) api.Object { return object.Do(o, x, i) })
			}
			all = append(all, func(o api.Object) api.Object { return object.Do(o, x, math.MaxInt) })
		}
		all = append(all, func(o api.Object) api.Object { return object.Fold(o, deps) })
	}
	return all
}

// roomy answers a value that is the same, of new memory, each list with some room behind its end.
func roomy[T any](v T) T {
	return deep(reflect.ValueOf(v)).Interface().(T)
}

// deep answers a value that is the same, of new memory, each list with some room behind its end.
func deep(v reflect.Value) reflect.Value {
	made := v
	switch v.Kind() {
	case reflect.Slice:
		made = reflect.MakeSlice(v.Type(), v.Len(), v.Len()+3)
		for k := range v.Len() {
			made.Index(k).Set(deep(v.Index(k)))
		}
	case reflect.Struct:
		made = reflect.New(v.Type()).Elem()
		for k := range v.NumField() {
			made.Field(k).Set(deep(v.Field(k)))
		}
	}
	return made
}

// lists answers all lists of a value, inner ones too, each with the room behind its end.
func lists(v reflect.Value) []reflect.Value {
	var all []reflect.Value
	switch v.Kind() {
	case reflect.Slice:
		v = v.Slice(0, v.Cap())
		all = append(all, v)
		for k := range v.Len() {
			all = append(all, lists(v.Index(k))...)
		}
	case reflect.Struct:
		for k := range v.NumField() {
			all = append(all, lists(v.Field(k))...)
		}
	}
	return all
}

// image tells all that a value's lists hold, and the room behind their ends.
func image(v any) string {
	var b strings.Builder
	for _, l := range lists(reflect.ValueOf(v)) {
		fmt.Fprintf(&b, "%+v\n", l)
	}
	return b.String()
}

// share tells whether two lists have memory in common.
func share(a reflect.Value, b reflect.Value) bool {
	size := func(v reflect.Value) uintptr { return uintptr(v.Cap()) * v.Type().Elem().Size() }
	return size(a) > 0 && size(b) > 0 && a.Pointer() < b.Pointer()+size(b) && b.Pointer() < a.Pointer()+size(a)
}

// askApart asks whether no two of all these values' lists have memory in common.
func askApart(t *testing.T, values ...any) {
	t.Helper()
	var all []reflect.Value
	for _, v := range values {
		for _, l := range lists(reflect.ValueOf(v)) {
			if l.Cap() > 0 {
				all = append(all, l)
			}
		}
	}
	for k, a := range all {
		for _, b := range all[:k] {
			if share(a, b) {
				t.Fatalf("%+v and %+v share memory, of %+v", a, b, values)
			}
		}
	}
}

// shapes are objects of every kind, and some that do not Check, with things in all lists.
func shapes() []api.Object {
	l := []api.Object{{}, mapOf(), mapOf(several()...), mapOf(several()[1]), mapOf(several()[1], several()[0]), named("", mapOf(several()...)), leafOf(gone())}
	all := api.Cell{Kind: 1, Amounts: full(1).Amounts, Writes: full(2).Writes, Members: full(4).Members, Elems: gone().Elems}
	l = append(l, leafOf(all), api.Object{Kind: 6, Key: "k", Cell: all, Fields: several()}, api.Object{Kind: 4, Key: "k", Cell: full(4), Fields: several()})
	for _, kind := range leaves() {
		l = append(l, newOf(kind), leafOf(full(kind)))
	}
	return l
}

// R3: an argument is as it was behind each call, its inner lists and the room behind all ends too; an answer shares no memory with it, nor with another answer, and no two of its lists do.
func TestArgumentsAndAnswers(t *testing.T) {
	for _, o := range shapes() {
		given := roomy(o)
		was := image(given)
		for _, call := range calls(o) {
			first, second := call(given), call(given)
			ask(t, "the other answer", second, first)
			if image(given) != was {
				t.Fatalf("the argument: %s, was %s", image(given), was)
			}
			askApart(t, given, first, second)
		}
		ask(t, "the argument", given, o)
	}
}

// R3: an object that is handed in with one list in several places is answered with several.
func TestOneListTwice(t *testing.T) {
	marks, c := []api.Mark{mk(1, 1, 1), mk(2, 1, 1)}, full(4)
	c.Members[1].Marks = marks
	for _, given := range []api.Object{leafOf(c), mapOf(field("a", c, marks...), field("b", c, marks...)), {Kind: 6, Key: "k", Cell: c, Fields: []api.Field{field("b", c, marks...)}}} {
		was := roomy(given)
		for _, call := range calls(given) {
			askApart(t, call(given), marks)
			askApart(t, call(given), c.Members)
			ask(t, "the argument", given, was)
		}
		askApart(t, object.Leaf(given, "a", 4), marks)
		askApart(t, object.Leaf(given, "a", 4), c.Members)
	}
}

// R3: Check, Empty, Read and Leaf change nothing, and what they answer is the caller's own; a transaction handed in is as it was.
func TestNothingElseIsChanged(t *testing.T) {
	for _, o := range slices.Concat(sound(), shapes(), wrongLeaves(), wrongMaps()) {
		given := roomy(o)
		was := image(given)
		object.Check(given)
		object.Empty(given)
		askApart(t, given, object.Read(given), object.Read(given))
		for _, f := range append(o.Fields, field("n", fresh(4))) {
			askApart(t, given, object.Leaf(given, f.Name, f.Cell.Kind), object.Leaf(given, f.Name, f.Cell.Kind))
		}
		if image(given) != was {
			t.Errorf("the argument: %s, was %s", image(given), was)
		}
	}
	for _, kind := range kinds() {
		x := tx(3, 1, 4, api.Vec{0, 1})
		x.Ops = append(make([]api.Op, 0, 200), opsOf(kind)...)
		was := image(x)
		for i := range len(x.Ops) + 2 {
			askApart(t, x, object.Do(newOf(kind), x, i))
		}
		if image(x) != was {
			t.Error("ops", x.Ops)
		}
	}
}

// R1: the zero object answers zeros.
func TestZeroObject(t *testing.T) {
	var o api.Object
	askCheck(t, o, false)
	askEmpty(t, o, false)
	for _, x := range []api.Tx{{}, {Ops: []api.Op{{}}}, tx(1, 1, 1, api.Vec{}, change(1, 7, "")), tx(1, 1, 1, api.Vec{}, api.Op{Act: 1, N: 7})} {
		ask(t, "Do", object.Do(o, x, 1), o)
	}
	ask(t, "Fold", object.Fold(o, everything()), o)
	ask(t, "Read", object.Read(o), api.Value{})
	ask(t, "Leaf", object.Leaf(o, "", 0), api.Cell{})
	ask(t, "Leaf", object.Leaf(o, "a", 1), api.Cell{})
}

// R1, R7: numbers at the ends of what there is lead to answers, and nothing comes round.
func TestExtremes(t *testing.T) {
	ends := []int{math.MinInt, -1, 0, 1, math.MaxInt}
	for _, o := range shapes() {
		may := mayBe(o)
		for _, p := range ends {
			for _, s := range ends {
				deps := api.Vec{p, s, p, s, p, s, p, s, p, s, p, s, p}
				for _, kind := range append([]int{4, 5, 6}, ends...) {
					l := []api.Op{{Kind: o.Kind, Key: o.Key, Act: 1 + kind&3, N: s, Text: "n", Ref: mk(p, s, kind)}, {Kind: o.Kind, Key: o.Key, Field: "a", Inner: kind, Act: p, N: s}, drop("a", kind)}
					x := tx(p, s, p, deps, append(l, opsOf(o.Kind)[0])...)
					for _, i := range append(ends, 2, 3, 4) {
						got := object.Do(o, x, i)
						ask(t, "Do", got, wantDo(o, x, i))
						askCheck(t, got, may)
					}
					object.Leaf(o, "a", kind)
				}
				folded := object.Fold(o, deps)
				ask(t, "Fold", folded, wantFold(o, deps))
				askCheck(t, folded, may)
				ask(t, "Read", object.Read(folded), object.Read(o))
			}
		}
	}
}

// R4, R8: calls know nothing of one another: the same call answers the same, whatever was asked between.
func TestTheSameAgain(t *testing.T) {
	o := mapOf()
	for k := range 100 {
		o = object.Do(o, tx(1+k%3, 1+k, k, api.Vec{}, inside(fmt.Sprint("f", k*37%50), leaves()[k*7%5], k, "t")), 1)
	}
	askCheck(t, o, true)
	x := tx(4, 1, 1, api.Vec{0, 90}, drop("f1", 2))
	want, read, left := object.Fold(o, api.Vec{0, 90}), object.Read(o), object.Do(o, x, 1)
	for range 20 {
		ask(t, "Fold", object.Fold(o, api.Vec{0, 90}), want)
		ask(t, "Read", object.Read(o), read)
		ask(t, "Do", object.Do(o, x, 1), left)
		object.Do(mapOf(several()...), x, 1)
		object.New(6, "k")
	}
}
