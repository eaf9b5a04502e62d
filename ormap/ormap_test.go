package ormap_test

import (
	"fmt"
	"math"
	"reflect"
	"slices"
	"strings"
	"testing"

	"plexus/api"
	"plexus/cell"
	"plexus/ops"
	"plexus/ormap"
	"plexus/vec"
)

// textMost is how many bytes a name has at most, as the document has it.
const textMost = 64

// kinds are the kinds that may lie in a map, as the document numbers them: Counter, Last, Many, Set, Seq.
func kinds() []int {
	return []int{1, 2, 3, 4, 5}
}

// strangers are kinds that may not: Map and Roster among them.
func strangers() []int {
	return []int{math.MinInt, math.MinInt + 1, -6, -5, -4, -3, -2, -1, 0, 6, 7, 8, 9, 257, 1<<32 + 1, math.MaxInt - 1, math.MaxInt}
}

// mk answers a Mark.
func mk(peer int, seq int, index int) api.Mark {
	return api.Mark{Dot: api.Dot{Peer: peer, Seq: seq}, Index: index}
}

// tx answers a transaction of that name and time that has seen deps.
func tx(peer int, seq int, time int, deps api.Vec) api.Tx {
	return api.Tx{Dot: api.Dot{Peer: peer, Seq: seq}, Time: time, Deps: deps}
}

// everything is a vector of all that there may be.
func everything() api.Vec {
	var v api.Vec
	for p := 1; p < len(v); p++ {
		v[p] = api.MaxSeq
	}
	return v
}

// fresh answers an empty cell of a kind.
func fresh(kind int) api.Cell {
	return api.Cell{Kind: kind}
}

// full answers a cell of each kind that Checks, with things of the peers 1 and 2 in it.
func full(kind int) api.Cell {
	c := api.Cell{Kind: kind}
	switch kind {
	case api.Counter:
		c.Amounts = []api.Amount{{Mark: mk(1, 1, 1), N: 3}, {Mark: mk(2, 1, 1), N: -400}}
	case api.Last, api.Many:
		c.Writes = []api.Write{{Mark: mk(1, 1, 1), Time: 7, Text: "b"}, {Mark: mk(2, 1, 1), Time: 5, Text: "a"}}
	case api.Set:
		c.Members = []api.Member{{Text: "b", Marks: []api.Mark{mk(1, 1, 1), mk(2, 1, 1)}}, {Text: "c", Marks: []api.Mark{mk(1, 1, 1)}}}
	case api.Seq:
		c.Elems = []api.Elem{{Mark: mk(1, 1, 1), Time: 3, Text: "a"}, {Mark: mk(2, 1, 1), Time: 5, Ref: mk(1, 1, 1), Text: "c"}}
	}
	return c
}

// gone answers a sequence with one element, which the op 1 2 1 took away.
func gone() api.Cell {
	return api.Cell{Kind: 5, Elems: []api.Elem{{Mark: mk(1, 1, 1), Time: 3, Text: "a", Gone: []api.Mark{mk(1, 2, 1)}}}}
}

// field answers a field of these marks, without Base.
func field(name string, c api.Cell, l ...api.Mark) api.Field {
	return api.Field{Name: name, Marks: l, Cell: c}
}

// old answers a field of these marks, with Base.
func old(name string, c api.Cell, l ...api.Mark) api.Field {
	return api.Field{Name: name, Base: true, Marks: l, Cell: c}
}

// several are fields of every kind: with Base alone, with marks alone, with both, with neither; with empty cells and others. Some are of one name and of unlike kinds, some names are the beginnings of others, or have bytes above 127.
func several() []api.Field {
	return []api.Field{
		old("a", fresh(api.Counter)),
		field("a", full(api.Set), mk(1, 1, 1), mk(2, 1, 1)),
		field("a", gone()),
		old("ab", full(api.Last), mk(2, 1, 1), mk(12, 4, 3)),
		field("b", api.Cell{Kind: api.Counter, Base: 5}),
		field("b", full(api.Seq), mk(1, 1, 1), mk(2, 1, 1)),
		field("\x80", fresh(api.Many), mk(1, 1, 1), mk(1, 1, 2), mk(2, 1, 1)),
		old("\xffz", full(api.Counter)),
	}
}

// sound are lists of fields that Check.
func sound() [][]api.Field {
	l := [][]api.Field{
		nil, several(), several()[2:5], {field(strings.Repeat("z", textMost), fresh(api.Set), mk(12, api.MaxSeq, api.MaxOps))},
		{field("a", gone())}, {field("a", gone(), mk(3, 1, 1))}, {old("a", gone())},
	}
	for _, kind := range kinds() {
		l = append(l, []api.Field{old("a", fresh(kind))}, []api.Field{field("a", fresh(kind), mk(1, 1, 1))}, []api.Field{field("a", full(kind))}, []api.Field{old("a", full(kind), mk(1, 1, 1))})
	}
	return l
}

// wrongCells are cells that do not Check: of kinds that no leaf has, and of each kind with what belongs to another one, or may not be.
func wrongCells() []api.Cell {
	var l []api.Cell
	for _, kind := range strangers() {
		l = append(l, fresh(kind))
	}
	for _, kind := range kinds() {
		c := full(kind)
		c.Kind = kind%5 + 1
		if kind != api.Last {
			l = append(l, c)
		}
		c = full(kind)
		c.Base = 1<<60 + 1
		l = append(l, c)
		c = full(kind)
		c.Amounts, c.Elems = append(c.Amounts, api.Amount{}), append(c.Elems, api.Elem{})
		l = append(l, c)
	}
	return append(l, api.Cell{Kind: 6, Members: full(4).Members}, api.Cell{Kind: 2, Base: 1})
}

// wrongMarks are lists of marks that no field has: that do not rise, of which two are one, with an Index below 1.
func wrongMarks() [][]api.Mark {
	return [][]api.Mark{
		{mk(2, 1, 1), mk(1, 1, 1)}, {mk(2, 1, 1), mk(1, 2, 2)}, {mk(1, 2, 1), mk(1, 1, 1)}, {mk(1, 2, 1), mk(1, 1, 2)}, {mk(1, 1, 2), mk(1, 1, 1)},
		{mk(1, 1, 1), mk(1, 1, 1)}, {mk(1, 1, 1), mk(2, 1, 1), mk(2, 1, 1)}, {mk(1, 1, 1), mk(3, 1, 1), mk(2, 1, 1)}, {mk(1, 1, 1), mk(2, 1, 1), mk(1, 1, 1)},
		{mk(1, 1, 0)}, {mk(1, 1, -1)}, {mk(1, 1, math.MinInt)}, {{}}, {mk(1, 1, 0), mk(1, 1, 1)}, {mk(1, 1, 1), mk(1, 2, 0)}, {mk(1, 1, 1), mk(1, 2, -1), mk(1, 3, 1)},
	}
}

// wrong are lists of fields that do not Check: out of order, by name or by kind, two that are one, and fields that may not be; at every place of a list.
func wrong() [][]api.Field {
	m := mk(1, 1, 1)
	l := [][]api.Field{
		{old("b", fresh(1)), old("a", fresh(1))}, {old("b", fresh(1)), old("a", fresh(2))}, {old("ab", fresh(1)), old("a", fresh(5))}, {old("\x80", fresh(1)), old("z", fresh(1))},
		{old("a", fresh(2)), old("a", fresh(1))}, {old("a", fresh(5)), old("a", fresh(4))}, {field("a", fresh(3), m), old("a", fresh(2))},
		{old("a", fresh(1)), old("a", fresh(1))}, {field("a", fresh(4), m), field("a", fresh(4), m)}, {old("a", fresh(2)), field("a", full(2), mk(3, 1, 1))},
		{{}}, {{Name: "a"}}, {{Base: true}}, {{Name: "a", Base: true}}, {{Marks: []api.Mark{m}, Cell: fresh(1)}},
	}
	spoilt := func(k int, spoil func(*api.Field)) {
		x := several()
		spoil(&x[k])
		l = append(l, x, x[k:k+1])
	}
	for k, x := range several() {
		spoilt(k, func(f *api.Field) { f.Name = "" })
		for _, n := range []int{textMost + 1, textMost + 2, 1000} {
			// The name begins as it did, so that fields of other names rise still.
			spoilt(k, func(f *api.Field) { f.Name += strings.Repeat("\x00", n-len(f.Name)) })
		}
		for _, marks := range wrongMarks() {
			spoilt(k, func(f *api.Field) { f.Marks = marks })
			spoilt(k, func(f *api.Field) { f.Base, f.Marks = !f.Base, marks })
		}
		for _, c := range wrongCells() {
			spoilt(k, func(f *api.Field) { f.Cell = c })
		}
		spoilt(k, func(f *api.Field) { f.Base, f.Marks, f.Cell = false, nil, fresh(f.Cell.Kind) })
		spoilt(k, func(f *api.Field) { f.Base, f.Marks, f.Cell = false, []api.Mark{}, roomy(fresh(f.Cell.Kind)) })
		l = append(l, slices.Insert(several(), k, x))
		if k > 0 {
			y := several()
			y[k-1], y[k] = y[k], y[k-1]
			l = append(l, y)
		}
	}
	return l
}

// plain answers a value that is the same, of new memory, with nil for each list that has nothing in it.
func plain(v reflect.Value) reflect.Value {
	made := reflect.New(v.Type()).Elem()
	switch v.Kind() {
	case reflect.Slice:
		for k := range v.Len() {
			made.Set(reflect.Append(made, plain(v.Index(k))))
		}
	case reflect.Struct:
		for k := range v.NumField() {
			made.Field(k).Set(plain(v.Field(k)))
		}
	default:
		made.Set(v)
	}
	return made
}

// same tells whether two values are the same; nil and empty lists are.
func same[T any](a T, b T) bool {
	return reflect.DeepEqual(plain(reflect.ValueOf(a)).Interface(), plain(reflect.ValueOf(b)).Interface())
}

// ask holds an answer against what is wanted.
func ask[T any](t *testing.T, what string, got T, want T) {
	t.Helper()
	if !same(got, want) {
		t.Errorf("%s: %+v, want %+v", what, got, want)
	}
}

// askCheck asks Check.
func askCheck(t *testing.T, l []api.Field, want bool) {
	t.Helper()
	if got := ormap.Check(l); got != want {
		t.Errorf("Check(%+v) = %v, want %v", l, got, want)
	}
}

// askFind asks Find of a field that is there.
func askFind(t *testing.T, l []api.Field, name string, kind int, want api.Cell) {
	t.Helper()
	got, found := ormap.Find(l, name, kind)
	if !found {
		t.Errorf("Find(%+v, %q, %d): none", l, name, kind)
	}
	ask(t, "Find", got, want)
}

// askNone asks Find of a field that is not there.
func askNone(t *testing.T, l []api.Field, name string, kind int) {
	t.Helper()
	got, found := ormap.Find(l, name, kind)
	if found || !same(got, api.Cell{}) {
		t.Errorf("Find(%+v, %q, %d) = %+v, %v", l, name, kind, got, found)
	}
}

// value answers a map's value.
func value(l ...api.Named) api.Value {
	return api.Value{Kind: 6, Fields: l}
}

// number answers the value of a field with a Counter.
func number(name string, n int) api.Named {
	return api.Named{Name: name, Value: api.Value{Kind: 1, N: n}}
}

// texts answers the value of a field of another kind.
func texts(name string, kind int, l ...string) api.Named {
	return api.Named{Name: name, Value: api.Value{Kind: kind, Texts: l}}
}

// change answers an op that changes a field, by an act that its kind takes.
func change(name string, kind int, n int, text string) api.Op {
	act := map[int]int{1: api.ActAdd, 2: api.ActPut, 3: api.ActPut, 4: api.ActAdd, 5: api.ActIns}[kind]
	return api.Op{Kind: api.Map, Key: "m", Field: name, Inner: kind, Act: act, N: n, Text: text}
}

// without answers fields without the one at a place.
func without(l []api.Field, k int) []api.Field {
	return slices.Delete(slices.Clone(l), k, k+1)
}

// with answers fields with another one in the place of one.
func with(l []api.Field, k int, f api.Field) []api.Field {
	l = slices.Clone(l)
	l[k] = f
	return l
}

// ahead tells whether a field stands ahead of one of that name and kind.
func ahead(f api.Field, name string, kind int) int {
	if f.Name != name {
		return strings.Compare(f.Name, name)
	}
	return f.Cell.Kind - kind
}

// wantDo answers what the document asks of Do, of fields that Check.
func wantDo(l []api.Field, x api.Tx, i int, o api.Op) []api.Field {
	if i < 1 || len(o.Field) < 1 || len(o.Field) > textMost || o.Inner < 1 || o.Inner > 5 {
		return l
	}
	l = slices.Clone(l)
	k := 0
	for k < len(l) && ahead(l[k], o.Field, o.Inner) < 0 {
		k++
	}
	if k == len(l) || ahead(l[k], o.Field, o.Inner) != 0 {
		l = slices.Insert(l, k, field(o.Field, fresh(o.Inner)))
	}
	own := api.Mark{Dot: x.Dot, Index: i}
	if !slices.Contains(l[k].Marks, own) {
		l[k].Marks = append(slices.Clone(l[k].Marks), own)
		slices.SortFunc(l[k].Marks, func(a api.Mark, b api.Mark) int {
			if ops.Less(a, b) {
				return -1
			}
			return 1
		})
	}
	l[k].Cell = cell.Do(l[k].Cell, x, i, o)
	return l
}

// wantDrop answers what the document asks of Drop, of fields that Check.
func wantDrop(l []api.Field, x api.Tx, i int, name string, kind int) []api.Field {
	var left []api.Field
	for _, f := range l {
		if ahead(f, name, kind) == 0 {
			dropped := field(f.Name, cell.Clear(f.Cell, x, i))
			for _, m := range f.Marks {
				if !ops.Before(m, x, i) {
					dropped.Marks = append(dropped.Marks, m)
				}
			}
			f = dropped
		}
		if f.Base || len(f.Marks) > 0 || !cell.Empty(f.Cell) {
			left = append(left, f)
		}
	}
	return left
}

// wantFold answers what the document asks of Fold, of fields that Check.
func wantFold(l []api.Field, cut api.Vec) []api.Field {
	var left []api.Field
	for _, f := range l {
		folded := api.Field{Name: f.Name, Base: f.Base, Cell: cell.Fold(f.Cell, cut)}
		for _, m := range f.Marks {
			if vec.Has(cut, m.Dot) {
				folded.Base = true
			} else {
				folded.Marks = append(folded.Marks, m)
			}
		}
		if folded.Base || len(folded.Marks) > 0 || !cell.Empty(folded.Cell) {
			left = append(left, folded)
		}
	}
	return left
}

// P13.1 to P13.4: the chapter's example.
func TestExample(t *testing.T) {
	a, seer, blind := tx(1, 1, 1, api.Vec{}), tx(2, 1, 2, api.Vec{0, 1}), tx(2, 1, 2, api.Vec{})
	l := ormap.Do(nil, a, 1, change("f", 1, 3, ""))
	ask(t, "Do", l, []api.Field{field("f", api.Cell{Kind: 1, Amounts: []api.Amount{{Mark: mk(1, 1, 1), N: 3}}}, mk(1, 1, 1))})
	ask(t, "Read", ormap.Read(l), value(number("f", 3)))
	ask(t, "Drop", ormap.Drop(l, seer, 1, "f", 1), nil)
	ask(t, "Read", ormap.Read(ormap.Drop(l, seer, 1, "f", 1)), value())
	ask(t, "Drop", ormap.Drop(l, blind, 1, "f", 1), l)
	ask(t, "Read", ormap.Read(ormap.Drop(l, blind, 1, "f", 1)), value(number("f", 3)))
}

// P13.1: what may be: no field, one, several; empty lists are as nil ones.
func TestCheckOfSound(t *testing.T) {
	for _, l := range sound() {
		askCheck(t, l, true)
		askCheck(t, roomy(l), true)
	}
	askCheck(t, []api.Field{}, true)
	askCheck(t, several()[:0], true)
}

// P13.1: what may not.
func TestCheckOfWrong(t *testing.T) {
	for _, l := range wrong() {
		askCheck(t, l, false)
		askCheck(t, roomy(l), false)
	}
}

// P13.1: fields rise by name, of one name by kind, of all lists of up to three.
func TestCheckRises(t *testing.T) {
	var l []api.Field
	for _, name := range []string{"\x00", "A", "a", "a\x00", "aa", "b", "\x7f", "\x80", "ä", "\xff"} {
		for _, kind := range []int{1, 4, 5} {
			l = append(l, old(name, fresh(kind)))
		}
	}
	for a, x := range l {
		askCheck(t, []api.Field{x}, true)
		for b, y := range l {
			askCheck(t, []api.Field{x, y}, a < b)
			for c, z := range l {
				askCheck(t, []api.Field{x, y, z}, a < b && b < c)
			}
		}
	}
	for _, a := range kinds() {
		for _, b := range kinds() {
			askCheck(t, []api.Field{field("f", full(a)), field("f", full(b))}, a < b)
		}
	}
}

// P13.1: a Name has 1 to MaxText bytes.
func TestCheckNames(t *testing.T) {
	for n := range 2*textMost + 2 {
		askCheck(t, []api.Field{old(strings.Repeat("x", n), fresh(1))}, n >= 1 && n <= 64)
		askCheck(t, []api.Field{old(strings.Repeat("ä", n), fresh(5))}, n >= 1 && n <= 32)
	}
}

// P13.1: Marks rise, with Indices from 1 on; nothing is asked of a Dot.
func TestCheckMarks(t *testing.T) {
	var l []api.Mark
	for k := range 12 {
		l = append(l, mk(1+k>>2, 1+k>>1&1, 1+k&1))
	}
	for a, x := range l {
		askCheck(t, []api.Field{field("f", fresh(1), x)}, true)
		for b, y := range l {
			askCheck(t, []api.Field{field("f", fresh(2), x, y)}, a < b)
			for c, z := range l {
				askCheck(t, []api.Field{old("f", full(3), x, y, z)}, a < b && b < c)
			}
		}
	}
	for _, index := range []int{math.MinInt, -1, 0, 1, 2, math.MaxInt} {
		askCheck(t, []api.Field{field("f", full(4), mk(1, 1, index))}, index >= 1)
		askCheck(t, []api.Field{old("f", full(4), mk(1, 0, 1), mk(1, 1, index))}, index >= 1)
	}
	for _, n := range []int{math.MinInt, -1, 0, 13, math.MaxInt} {
		askCheck(t, []api.Field{field("f", fresh(5), mk(n, n, 1))}, true)
	}
}

// P13.1: each Cell Checks, and each field has Base, or Marks, or a Cell that is not Empty.
func TestCheckCells(t *testing.T) {
	for _, c := range wrongCells() {
		if cell.Check(c) {
			t.Errorf("%+v Checks", c)
		}
		for _, f := range []api.Field{field("f", c), old("f", c), field("f", c, mk(1, 1, 1)), old("f", c, mk(1, 1, 1))} {
			askCheck(t, []api.Field{f}, false)
		}
	}
	for _, kind := range kinds() {
		for _, c := range []api.Cell{fresh(kind), full(kind), gone()} {
			askCheck(t, []api.Field{old("f", c)}, true)
			askCheck(t, []api.Field{field("f", c, mk(1, 1, 1))}, true)
			askCheck(t, []api.Field{old("f", c, mk(1, 1, 1))}, true)
			askCheck(t, []api.Field{field("f", c)}, !cell.Empty(c))
		}
		askCheck(t, []api.Field{field("f", roomy(fresh(kind)))}, false)
	}
}

// P13.1: each call of fields that do not Check answers them as they are, also where they name one that is there; Read the zero Value, Find zero and false.
func TestCallsOfWrong(t *testing.T) {
	seer := tx(3, 9, 5, everything())
	for _, l := range wrong() {
		for _, f := range []api.Field{l[0], l[len(l)-1], field("n", fresh(4)), field("a", fresh(1))} {
			for _, i := range []int{0, 1} {
				ask(t, "Do", ormap.Do(l, seer, i, change(f.Name, f.Cell.Kind, 7, "t")), l)
				ask(t, "Drop", ormap.Drop(l, seer, i, f.Name, f.Cell.Kind), l)
			}
			askNone(t, l, f.Name, f.Cell.Kind)
		}
		ask(t, "Fold", ormap.Fold(l, everything()), l)
		ask(t, "Fold", ormap.Fold(l, api.Vec{}), l)
		ask(t, "Read", ormap.Read(l), api.Value{})
	}
	for _, l := range [][]api.Field{{{}}, {several()[1], several()[0]}, {field("a", fresh(1))}, {old("a", full(5), mk(1, 1, 0))}} {
		for _, call := range calls() {
			ask(t, "a call", call(l), l)
		}
	}
}

// P13.2: Do of a field that is not there makes one, with the op's mark and what layer 12 makes of an empty cell: at the front, in the middle, at the end, or where there is none.
func TestDoMakesFields(t *testing.T) {
	x, m := tx(3, 1, 4, everything()), mk(3, 1, 2)
	for _, kind := range kinds() {
		o := change("n", kind, 7, "t")
		made := field("n", cell.Do(fresh(kind), x, 2, o), m)
		if cell.Empty(made.Cell) {
			t.Errorf("nothing is done to %d", kind)
		}
		ask(t, "none", ormap.Do(nil, x, 2, o), []api.Field{made})
		for at, name := range map[int]string{0: "A", 3: "aa", 6: "bb", 7: "\x80\x00", 8: "\xffzz"} {
			o.Field, made.Name = name, name
			ask(t, "among several", ormap.Do(several(), x, 2, o), slices.Insert(several(), at, made))
		}
	}
	for k, f := range several() {
		o := change(f.Name, f.Cell.Kind, 7, "t")
		made := field(f.Name, cell.Do(fresh(f.Cell.Kind), x, 2, o), m)
		ask(t, "in its place", ormap.Do(without(several(), k), x, 2, o), with(several(), k, made))
	}
	ask(t, "a zero tx", ormap.Do(nil, api.Tx{}, 2, change("n", 4, 0, "t")), []api.Field{field("n", api.Cell{Kind: 4, Members: []api.Member{{Text: "t", Marks: []api.Mark{mk(0, 0, 2)}}}}, mk(0, 0, 2))})
}

// P13.2: two fields of one name and of unlike kinds know nothing of one another.
func TestDoOfOneName(t *testing.T) {
	var l []api.Field
	for _, k := range []int{3, 0, 4, 1, 2} {
		l = ormap.Do(l, tx(1, 1+k, 1, api.Vec{}), 1, change("f", kinds()[k], 7, "t"))
	}
	var want []api.Named
	for k, kind := range kinds() {
		c := cell.Do(fresh(kind), tx(1, 1+k, 1, api.Vec{}), 1, change("", kind, 7, "t"))
		askFind(t, l, "f", kind, c)
		want = append(want, api.Named{Name: "f", Value: cell.Read(c)})
	}
	ask(t, "Read", ormap.Read(l), value(want...))
	left := ormap.Drop(l, tx(2, 1, 2, everything()), 1, "f", 2)
	ask(t, "Drop", left, without(l, 1))
}

// P13.2: Do of a field that is there puts the mark where it belongs, and does the op to its Cell; Base stays as it is, and so do the other fields.
func TestDoPutsMarks(t *testing.T) {
	l := []api.Mark{mk(1, 2, 2), mk(1, 2, 4), mk(2, 1, 1)}
	for _, c := range []struct {
		mark api.Mark
		at   int
	}{
		{mk(0, 0, 1), 0}, {mk(1, 1, 9), 0}, {mk(1, 2, 1), 0}, {mk(1, 2, 3), 1}, {mk(1, 2, 5), 2},
		{mk(1, 3, 1), 2}, {mk(2, 0, 9), 2}, {mk(2, 1, 2), 3}, {mk(2, 2, 1), 3}, {mk(13, 1, 1), 3},
	} {
		marks := slices.Insert(slices.Clone(l), c.at, c.mark)
		for _, kind := range kinds() {
			x := api.Tx{Dot: c.mark.Dot, Time: 8}
			o := change("f", kind, 7, "t")
			done := cell.Do(full(kind), x, c.mark.Index, o)
			do := func(given ...api.Field) []api.Field { return ormap.Do(given, x, c.mark.Index, o) }
			ask(t, "marks alone", do(field("f", full(kind), l...)), []api.Field{field("f", done, marks...)})
			ask(t, "both", do(old("e", full(1)), old("f", full(kind), l...), old("g", full(1))), []api.Field{old("e", full(1)), old("f", done, marks...), old("g", full(1))})
			ask(t, "Base alone", do(old("f", full(kind))), []api.Field{old("f", done, c.mark)})
			ask(t, "neither", do(field("f", full(kind))), []api.Field{field("f", done, c.mark)})
		}
	}
}

// P13.2: an op whose Act its kind does not take does nothing to the Cell, and the field has its Mark all the same, be it new or not; an ActDrop drops nothing here.
func TestDoOfOtherActs(t *testing.T) {
	x, m := tx(3, 1, 4, everything()), mk(3, 1, 2)
	taken := map[[2]int]bool{{1, 1}: true, {2, 3}: true, {3, 3}: true, {4, 1}: true, {4, 2}: true, {5, 4}: true, {5, 2}: true}
	for _, kind := range kinds() {
		for _, act := range []int{math.MinInt, -1, 0, 1, 2, 3, 4, 5, 6, 7, math.MaxInt} {
			o := api.Op{Field: "f", Inner: kind, Act: act, N: 7, Text: "c", Ref: mk(1, 1, 1)}
			done := cell.Do(full(kind), x, 2, o)
			if same(done, full(kind)) == taken[[2]int{kind, act}] {
				t.Errorf("act %d at %d: %+v", act, kind, done)
			}
			ask(t, "of one that is there", ormap.Do([]api.Field{old("f", full(kind), mk(1, 1, 1))}, x, 2, o), []api.Field{old("f", done, mk(1, 1, 1), m)})
			if !taken[[2]int{kind, act}] || act == api.ActDel {
				l := ormap.Do(nil, x, 2, o)
				ask(t, "of none", l, []api.Field{field("f", fresh(kind), m)})
				ask(t, "Read", ormap.Read(l), value(api.Named{Name: "f", Value: cell.Read(fresh(kind))}))
			}
		}
	}
	ask(t, "a number beyond", ormap.Do(nil, x, 2, change("f", 1, 1<<30+1, "")), []api.Field{field("f", fresh(1), m)})
	ask(t, "a text beyond", ormap.Do(nil, x, 2, change("f", 4, 0, strings.Repeat("x", 65))), []api.Field{field("f", fresh(4), m)})
}

// P13.2: the field hangs on the op's Field and Inner, not on its Kind and Key, nor on t's ops.
func TestDoAsksFieldAndInner(t *testing.T) {
	x := tx(3, 1, 4, everything())
	want := ormap.Do(several(), x, 1, change("a", 4, 7, "t"))
	for _, kind := range append(kinds(), strangers()...) {
		o := change("a", 4, 7, "t")
		o.Kind, o.Key = kind, strings.Repeat("k", 100)
		y := x
		y.Ops = []api.Op{change("b", 1, 9, "other")}
		ask(t, "Do", ormap.Do(several(), y, 1, o), want)
	}
}

// P13.2: the same op done twice is there once; of a Mark that is there already the Cell is still layer 12's.
func TestDoAgain(t *testing.T) {
	for _, kind := range kinds() {
		x := tx(3, 1, 4, api.Vec{0, 1})
		once := ormap.Do(several(), x, 1, change("f", kind, 7, "t"))
		ask(t, "twice", ormap.Do(once, x, 1, change("f", kind, 7, "t")), once)
		marks := []api.Mark{mk(3, 1, 1)}
		ask(t, "another cell", ormap.Do([]api.Field{old("f", full(kind), marks...)}, x, 1, change("f", kind, 7, "t")),
			[]api.Field{old("f", cell.Do(full(kind), x, 1, change("", kind, 7, "t")), marks...)})
	}
}

// P13.2: i of Do goes from 1 on, up to the greatest int; below that they are as they are.
func TestDoIndex(t *testing.T) {
	x := tx(3, 1, 4, everything())
	for _, kind := range kinds() {
		o := change("f", kind, 7, "t")
		for _, l := range sound() {
			for _, i := range []int{0, -1, math.MinInt} {
				ask(t, "below", ormap.Do(l, x, i, o), l)
			}
		}
		for _, i := range []int{1, 2, api.MaxOps, api.MaxOps + 1, math.MaxInt} {
			made := field("f", cell.Do(fresh(kind), x, i, o), mk(3, 1, i))
			ask(t, "from 1 on", ormap.Do(nil, x, i, o), []api.Field{made})
			ask(t, "from 1 on", ormap.Do(several(), x, i, o), slices.Insert(several(), 6, made))
		}
	}
}

// P13.2: a Field has 1 to MaxText bytes; of another one they are as they are.
func TestDoNames(t *testing.T) {
	x := tx(3, 1, 4, everything())
	for _, name := range []string{"x", "\x00", "\xff", strings.Repeat("x", 63), strings.Repeat("x", 64), strings.Repeat("ä", 32)} {
		l := ormap.Do(nil, x, 1, change(name, 1, 7, ""))
		ask(t, "within", ormap.Read(l), value(number(name, 7)))
		askCheck(t, l, true)
	}
	for _, name := range []string{"", strings.Repeat("x", 65), strings.Repeat("ä", 32) + "x", strings.Repeat("x", 1000)} {
		for _, l := range sound() {
			for _, kind := range kinds() {
				ask(t, "beyond", ormap.Do(l, x, 1, change(name, kind, 7, "t")), l)
			}
		}
	}
}

// P13.2: an Inner is from Counter to Seq; of another one they are as they are.
func TestDoInners(t *testing.T) {
	x := tx(3, 1, 4, everything())
	for _, kind := range strangers() {
		for _, act := range []int{0, 1, 2, 3, 4, 5} {
			for _, l := range sound() {
				ask(t, "beyond", ormap.Do(l, x, 1, api.Op{Kind: 6, Field: "a", Inner: kind, Act: act, N: 7, Text: "t"}), l)
			}
		}
	}
	for kind := range 9 {
		if got := ormap.Do(nil, x, 1, change("a", kind, 7, "t")); (len(got) == 1) != (kind >= 1 && kind <= 5) {
			t.Errorf("%d: %+v", kind, got)
		}
	}
}

// P13.2: Drop by one that has seen none, some, all of the marks: Base goes, and so do the marks that it has seen, and the Cell is cleared; a field that has nothing left goes, and the others stay as they are.
func TestDrop(t *testing.T) {
	l := []api.Mark{mk(1, 1, 1), mk(1, 2, 1), mk(2, 1, 1), mk(12, 4, 3)}
	for _, c := range []struct {
		deps api.Vec
		left []api.Mark
	}{
		{api.Vec{}, l},
		{api.Vec{9, 0, 0, 9, 9}, l},
		{api.Vec{0, 1}, l[1:]},
		{api.Vec{0, 2}, l[2:]},
		{api.Vec{0, 0, 1}, []api.Mark{l[0], l[1], l[3]}},
		{api.Vec{0, 2, 1, 0, 0, 0, 0, 0, 0, 0, 0, 0, 3}, l[3:]},
		{api.Vec{0, 2, 1, 0, 0, 0, 0, 0, 0, 0, 0, 0, 4}, nil},
	} {
		x := tx(5, 1, 9, c.deps)
		for _, kind := range kinds() {
			var want []api.Field
			if left := cell.Clear(full(kind), x, 1); len(c.left) > 0 || !cell.Empty(left) {
				want = []api.Field{field("f", left, c.left...)}
			}
			ask(t, "marks alone", ormap.Drop([]api.Field{field("f", full(kind), l...)}, x, 1, "f", kind), want)
			ask(t, "both", ormap.Drop([]api.Field{old("f", full(kind), l...)}, x, 1, "f", kind), want)
			beside := func(f ...api.Field) []api.Field {
				return slices.Concat([]api.Field{old("e", full(kind), l...)}, f, []api.Field{field("g", full(kind), l...)})
			}
			ask(t, "among others", ormap.Drop(beside(old("f", full(kind), l...)), x, 1, "f", kind), beside(want...))
			ask(t, "Base alone", ormap.Drop(beside(old("f", fresh(kind))), x, 1, "f", kind), beside())
		}
	}
}

// P13.2: what is left of each of several fields, written out.
func TestDropOfSeveral(t *testing.T) {
	first, all := tx(3, 1, 9, api.Vec{0, 1}), tx(3, 1, 9, everything())
	at := func(k int) (string, int) { return several()[k].Name, several()[k].Cell.Kind }
	drop := func(x api.Tx, k int) []api.Field {
		name, kind := at(k)
		return ormap.Drop(several(), x, 1, name, kind)
	}
	c := api.Cell{Kind: 4, Members: []api.Member{{Text: "b", Marks: []api.Mark{mk(2, 1, 1)}}}}
	ask(t, "a set", drop(first, 1), with(several(), 1, field("a", c, mk(2, 1, 1))))
	c = api.Cell{Kind: 2, Writes: full(2).Writes[1:]}
	ask(t, "a register", drop(first, 3), with(several(), 3, field("ab", c, mk(2, 1, 1), mk(12, 4, 3))))
	c = full(5)
	c.Elems[0].Gone = []api.Mark{mk(3, 1, 1)}
	ask(t, "a sequence", drop(first, 5), with(several(), 5, field("b", c, mk(2, 1, 1))))
	c.Elems[1].Gone = []api.Mark{mk(3, 1, 1)}
	ask(t, "a sequence, by all", drop(all, 5), with(several(), 5, field("b", c)))
	c = gone()
	c.Elems[0].Gone = append(c.Elems[0].Gone, mk(3, 1, 1))
	ask(t, "one that is gone", drop(first, 2), with(several(), 2, field("a", c)))
	ask(t, "marks alone", drop(first, 6), with(several(), 6, field("\x80", fresh(3), mk(2, 1, 1))))
	ask(t, "a counter", drop(first, 7), with(several(), 7, field("\xffz", api.Cell{Kind: 1, Amounts: full(1).Amounts[1:]})))
	for _, x := range []api.Tx{first, all, tx(3, 1, 9, api.Vec{})} {
		ask(t, "Base alone", drop(x, 0), without(several(), 0))
		ask(t, "a base alone", drop(x, 4), without(several(), 4))
	}
	for _, k := range []int{1, 3, 6, 7} {
		ask(t, "by all", drop(all, k), without(several(), k))
	}
}

// P13.2: Drop of a name that is not there, of the beginning of one too, and of one that is there with another kind, changes nothing.
func TestDropOfNone(t *testing.T) {
	x := tx(5, 1, 9, everything())
	for _, l := range sound() {
		for _, name := range []string{"", "\x00", "A", "a", "aa", "ab", "abc", "b", "n", "\x80", "\xff", strings.Repeat("z", 63), strings.Repeat("z", 65)} {
			for _, kind := range append(kinds(), strangers()...) {
				if !slices.ContainsFunc(l, func(f api.Field) bool { return f.Name == name && f.Cell.Kind == kind }) {
					ask(t, "Drop", ormap.Drop(l, x, 1, name, kind), l)
				}
			}
		}
	}
}

// P13.2: i of Drop: an op has seen those ahead of it in its own transaction, and neither itself nor those behind, up to the greatest int.
func TestDropOfItsOwn(t *testing.T) {
	l := []api.Mark{mk(1, 1, 1), mk(2, 3, 1), mk(2, 3, 2), mk(2, 3, 3), mk(2, 4, 1)}
	none := tx(2, 3, 9, api.Vec{})
	for _, c := range []struct {
		tx   api.Tx
		i    int
		left []api.Mark
	}{
		{none, 1, l},
		{none, 2, []api.Mark{l[0], l[2], l[3], l[4]}},
		{none, 3, []api.Mark{l[0], l[3], l[4]}},
		{none, 4, []api.Mark{l[0], l[4]}},
		{none, math.MaxInt, []api.Mark{l[0], l[4]}},
		{tx(2, 3, 9, api.Vec{0, 1, 2}), 2, l[2:]},
		{tx(2, 3, 9, api.Vec{0, 1, 4}), 1, nil},
	} {
		var want []api.Field
		if len(c.left) > 0 {
			want = []api.Field{field("f", fresh(4), c.left...)}
		}
		ask(t, "Drop", ormap.Drop([]api.Field{field("f", fresh(4), l...)}, c.tx, c.i, "f", 4), want)
		ask(t, "Drop", ormap.Drop([]api.Field{old("f", fresh(4), l...)}, c.tx, c.i, "f", 4), want)
	}
	open := []api.Field{field("f", fresh(1), mk(0, 0, 1), mk(0, 0, 2))}
	ask(t, "an open one's", ormap.Drop(open, api.Tx{}, 2, "f", 1), []api.Field{field("f", fresh(1), mk(0, 0, 2))})
	ask(t, "an open one's last", ormap.Drop(open, api.Tx{}, 3, "f", 1), nil)
}

// P13.2: Drop's words put no condition on i: of one below 1 Base goes, and what Deps have, and layer 12's Clear leaves the Cell as it is.
func TestDropIndexBelow(t *testing.T) {
	for _, i := range []int{0, -1, math.MinInt} {
		for _, kind := range kinds() {
			l := []api.Field{old("e", full(kind)), old("f", full(kind), mk(1, 1, 1), mk(2, 1, 1)), old("g", fresh(kind))}
			ask(t, "of some", ormap.Drop(l, tx(2, 1, 9, api.Vec{0, 1}), i, "f", kind), with(l, 1, field("f", full(kind), mk(2, 1, 1))))
			ask(t, "of all", ormap.Drop(l, tx(3, 1, 9, everything()), i, "f", kind), with(l, 1, field("f", full(kind))))
			ask(t, "of Base alone", ormap.Drop(l, tx(3, 1, 9, everything()), i, "g", kind), l[:2])
			ask(t, "of its own", ormap.Drop([]api.Field{field("f", full(kind), mk(2, 1, 1))}, tx(2, 1, 9, api.Vec{}), i, "f", kind), []api.Field{field("f", full(kind), mk(2, 1, 1))})
		}
	}
}

// P13.2: a field that is dropped keeps Marks while its Cell is Empty, and a Cell that is not Empty while it has neither Base nor Marks: that one is not read, and found.
func TestWhatDropLeaves(t *testing.T) {
	a, b := tx(1, 1, 1, api.Vec{}), tx(2, 1, 2, api.Vec{})
	l := ormap.Do(ormap.Do(nil, a, 1, change("f", 4, 0, "t")), b, 1, api.Op{Field: "f", Inner: 4, Act: api.ActDel, Text: "u"})
	left := ormap.Drop(l, tx(3, 1, 3, api.Vec{0, 1}), 1, "f", 4)
	ask(t, "marks alone", left, []api.Field{field("f", fresh(4), mk(2, 1, 1))})
	ask(t, "Read", ormap.Read(left), value(texts("f", 4)))
	askFind(t, left, "f", 4, fresh(4))
	l = ormap.Do(nil, a, 1, change("f", 5, 0, "t"))
	left = ormap.Drop(l, tx(3, 1, 3, api.Vec{0, 1}), 1, "f", 5)
	c := api.Cell{Kind: 5, Elems: []api.Elem{{Mark: mk(1, 1, 1), Time: 1, Text: "t", Gone: []api.Mark{mk(3, 1, 1)}}}}
	ask(t, "a cell alone", left, []api.Field{field("f", c)})
	ask(t, "Read", ormap.Read(left), value())
	askFind(t, left, "f", 5, c)
	ask(t, "folded too early", ormap.Fold(left, api.Vec{0, 1}), left)
	ask(t, "folded", ormap.Fold(left, api.Vec{0, 1, 0, 1}), nil)
	again := ormap.Do(left, tx(4, 1, 4, api.Vec{0, 1, 0, 1}), 1, change("f", 5, 0, "u"))
	ask(t, "Read", ormap.Read(again), value(texts("f", 5, "u")))
}

// P13.2: a Fold whose cut has none, some, all of the Dots: a field that loses a mark has Base, and no other one gets it; Cells are folded; a field that has nothing left goes.
func TestFold(t *testing.T) {
	counter := func(base int, l ...api.Amount) api.Cell { return api.Cell{Kind: 1, Base: base, Amounts: l} }
	set := func(l ...api.Member) api.Cell { return api.Cell{Kind: 4, Members: l} }
	b := func(l ...api.Mark) api.Member { return api.Member{Text: "b", Base: true, Marks: l} }
	c := api.Member{Text: "c", Base: true}
	one, two := mk(1, 1, 1), mk(2, 1, 1)
	some := several()
	some[1] = old("a", set(b(two), c), two)
	some[5] = old("b", full(5), two)
	some[6] = old("\x80", fresh(3), two)
	some[7] = old("\xffz", counter(3, full(1).Amounts[1]))
	other := several()
	other[1] = old("a", set(b(one), api.Member{Text: "c", Marks: []api.Mark{one}}), one)
	other[3] = old("ab", full(2), mk(12, 4, 3))
	other[5] = old("b", full(5), one)
	other[6] = old("\x80", fresh(3), one, mk(1, 1, 2))
	other[7] = old("\xffz", counter(-400, full(1).Amounts[0]))
	all := []api.Field{several()[0], old("a", set(b(), c)), old("ab", full(2)), several()[4], old("b", full(5)), old("\x80", fresh(3)), old("\xffz", counter(-397))}
	for _, c := range []struct {
		cut  api.Vec
		want []api.Field
	}{
		{api.Vec{}, several()}, {api.Vec{9, 0, 0, 9, 9}, several()}, {api.Vec{0, 1}, some}, {api.Vec{0, 0, 1}, other}, {everything(), all},
	} {
		folded := ormap.Fold(several(), c.cut)
		ask(t, "Fold", folded, c.want)
		ask(t, "Fold of what was folded", ormap.Fold(folded, c.cut), folded)
		ask(t, "Fold of none", ormap.Fold(nil, c.cut), nil)
		ask(t, "Read", ormap.Read(folded), ormap.Read(several()))
	}
}

// P13.2: a mark whose Dot no cut has stays, whatever the cut is.
func TestFoldLeavesOthers(t *testing.T) {
	l := []api.Field{field("f", fresh(2), mk(-1, 1, 1), mk(0, 0, 1), mk(0, 1, 1), mk(1, -1, 1), mk(1, 0, 1), mk(13, 1, 1))}
	for _, n := range []int{0, 1, api.MaxSeq, -1, math.MaxInt, math.MinInt} {
		var cut api.Vec
		for p := range cut {
			cut[p] = n
		}
		ask(t, "Fold", ormap.Fold(l, cut), l)
	}
}

// P13.2: a field goes behind Fold if its Cell is Empty then, and it has neither Base nor Marks; one that has either stays.
func TestFoldTakesFields(t *testing.T) {
	cut := api.Vec{0, 2}
	l := []api.Field{field("a", gone()), old("b", gone()), field("c", gone(), mk(1, 1, 1)), field("d", gone(), mk(2, 1, 1)), field("e", gone())}
	ask(t, "too early", ormap.Fold(l, api.Vec{0, 0, 9}), with(l, 3, old("d", gone())))
	ask(t, "Fold", ormap.Fold(l, cut), []api.Field{old("b", fresh(5)), old("c", fresh(5)), field("d", fresh(5), mk(2, 1, 1))})
	ask(t, "all of it", ormap.Fold([]api.Field{field("a", gone())}, cut), nil)
}

// P13.2: Do and Drop of what was folded: a Do leaves Base there, a Drop takes it away, whoever it is, and what was done since stays.
func TestBehindFold(t *testing.T) {
	a, b := tx(1, 1, 1, api.Vec{}), tx(2, 1, 2, api.Vec{0, 1})
	cut := api.Vec{0, 1}
	for _, kind := range kinds() {
		l := ormap.Fold(ormap.Do(nil, a, 1, change("f", kind, 3, "t")), cut)
		was := cell.Fold(cell.Do(fresh(kind), a, 1, change("f", kind, 3, "t")), cut)
		ask(t, "Fold", l, []api.Field{old("f", was)})
		more := ormap.Do(l, b, 1, change("f", kind, 4, "u"))
		ask(t, "Do", more, []api.Field{old("f", cell.Do(was, b, 1, change("f", kind, 4, "u")), mk(2, 1, 1))})
		left := ormap.Drop(more, tx(3, 1, 3, cut), 1, "f", kind)
		ask(t, "Drop", left, []api.Field{field("f", cell.Clear(more[0].Cell, tx(3, 1, 3, cut), 1), mk(2, 1, 1))})
		want := value(texts("f", kind, "u"))
		if kind == api.Counter {
			want = value(number("f", 4))
		}
		ask(t, "Read", ormap.Read(left), want)
		ask(t, "Read", ormap.Read(ormap.Drop(l, tx(3, 1, 3, cut), 1, "f", kind)), value())
	}
}

// P13.3: Read answers the fields with Base or Marks, in order, with their Cells' values; others are not read.
func TestRead(t *testing.T) {
	want := value(number("a", 0), texts("a", 4, "b", "c"), texts("ab", 2, "b"), texts("b", 5, "a", "c"), texts("\x80", 3), number("\xffz", -397))
	ask(t, "Read", ormap.Read(several()), want)
	for _, none := range [][]api.Field{nil, {}, several()[:0], {field("a", gone())}} {
		ask(t, "of none", ormap.Read(none), api.Value{Kind: 6})
	}
	for _, kind := range kinds() {
		v := api.Named{Name: "f", Value: cell.Read(full(kind))}
		ask(t, "neither", ormap.Read([]api.Field{field("f", full(kind))}), value())
		ask(t, "Base", ormap.Read([]api.Field{old("f", full(kind))}), value(v))
		ask(t, "marks", ormap.Read([]api.Field{field("f", full(kind), mk(9, 9, 9))}), value(v))
		ask(t, "both", ormap.Read([]api.Field{old("f", full(kind), mk(9, 9, 9))}), value(v))
		ask(t, "a neighbour", ormap.Read([]api.Field{field("e", full(kind)), old("f", full(kind)), field("g", full(kind))}), value(v))
	}
}

// P13.3: Find answers the Cell of each field that is there, whether it is read or not; of all other names and kinds it answers zero and false.
func TestFind(t *testing.T) {
	for _, l := range sound() {
		for _, name := range []string{"", "\x00", "A", "a", "a\x00", "ab", "abc", "b", "n", "\x80", "\xff", "\xffz", strings.Repeat("z", 63), strings.Repeat("z", 64), strings.Repeat("z", 65)} {
			for _, kind := range append(kinds(), strangers()...) {
				k := slices.IndexFunc(l, func(f api.Field) bool { return f.Name == name && f.Cell.Kind == kind })
				if k >= 0 {
					askFind(t, l, name, kind, l[k].Cell)
				} else {
					askNone(t, l, name, kind)
				}
			}
		}
	}
	askFind(t, several(), "a", 5, gone())
	askFind(t, several(), "b", 1, api.Cell{Kind: 1, Base: 5})
	askNone(t, several(), "b", 2)
	askNone(t, nil, "a", 1)
}

// P13.2, P13.3: all calls of fields that Check answer what the document's words say, told plainly, and Check.
func TestCallsByAccount(t *testing.T) {
	for _, l := range sound() {
		for _, deps := range []api.Vec{{}, {0, 1}, {0, 0, 1}, {0, 2, 1}, everything()} {
			for _, x := range []api.Tx{tx(1, 1, 9, deps), tx(3, 1, -2, deps), {Deps: deps}} {
				for _, name := range []string{"a", "ab", "b", "f", "\x80"} {
					for _, kind := range kinds() {
						for i := range 4 {
							for _, o := range []api.Op{change(name, kind, 7, "b"), {Field: name, Inner: kind, Act: api.ActDel, Text: "b", Ref: mk(1, 1, 1)}} {
								done := ormap.Do(l, x, i, o)
								ask(t, "Do", done, wantDo(l, x, i, o))
								askCheck(t, done, true)
							}
							left := ormap.Drop(l, x, i, name, kind)
							ask(t, "Drop", left, wantDrop(l, x, i, name, kind))
							askCheck(t, left, true)
						}
					}
				}
			}
			folded := ormap.Fold(l, deps)
			ask(t, "Fold", folded, wantFold(l, deps))
			askCheck(t, folded, true)
		}
	}
}

// calls are calls of each function that answers fields.
func calls() []func([]api.Field) []api.Field {
	var l []func([]api.Field) []api.Field
	for _, deps := range []api.Vec{{}, {0, 1}, everything(), {9, 1, math.MaxInt, -4, 1, 1, 1, 1, 1, 1, 1, 1, math.MinInt}} {
		for _, x := range []api.Tx{tx(1, 1, 3, deps), tx(13, 1, -9, deps), {Deps: deps}} {
			for _, i := range []int{0, 1, math.MaxInt} {
				for _, name := range []string{"", "a", "b", "n", strings.Repeat("x", textMost+1)} {
					for _, kind := range []int{0, 1, 4, 5, 6} {
						l = append(l, func(l []api.Field) []api.Field { return ormap.Do(l, x, i, change(name, kind, 7, "b")) })
						l = append(l, func(l []api.Field) []api.Field { return ormap.Drop(l, x, i, name, kind) })
					}
				}
			}
		}
		l = append(l, func(l []api.Field) []api.Field { return ormap.Fold(l, deps) })
	}
	return l
}

// roomy answers a value that is the same, of new memory, each list with some room behind its end.
func roomy[T any](v T) T {
	return deep(reflect.ValueOf(v)).Interface().(T)
}

// deep answers a value that is the same, of new memory, each list with some room behind its end.
func deep(v reflect.Value) reflect.Value {
	made := v
	switch v.Kind() {
	case reflect.Slice:
		made = reflect.MakeSlice(v.Type(), v.Len(), v.Len()+3)
		for k := range v.Len() {
			made.Index(k).Set(deep(v.Index(k)))
		}
	case reflect.Struct:
		made = reflect.New(v.Type()).Elem()
		for k := range v.NumField() {
			made.Field(k).Set(deep(v.Field(k)))
		}
	}
	return made
}

// lists answers all lists of a value, inner ones too, each with the room behind its end.
func lists(v reflect.Value) []reflect.Value {
	var all []reflect.Value
	switch v.Kind() {
	case reflect.Slice:
		v = v.Slice(0, v.Cap())
		all = append(all, v)
		for k := range v.Len() {
			all = append(all, lists(v.Index(k))...)
		}
	case reflect.Struct:
		for k := range v.NumField() {
			all = append(all, lists(v.Field(k))...)
		}
	}
	return all
}

// image tells all that a value's lists hold, and the room behind their ends.
func image(v any) string {
	var b strings.Builder
	for _, l := range lists(reflect.ValueOf(v)) {
		fmt.Fprintf(&b, "%+v\n", l)
	}
	return b.String()
}

// share tells whether two lists have memory in common.
func share(a reflect.Value, b reflect.Value) bool {
	size := func(v reflect.Value) uintptr { return uintptr(v.Cap()) * v.Type().Elem().Size() }
	return size(a) > 0 && size(b) > 0 && a.Pointer() < b.Pointer()+size(b) && b.Pointer() < a.Pointer()+size(a)
}

// askApart asks whether no two of all these values' lists have memory in common.
func askApart(t *testing.T, values ...any) {
	t.Helper()
	var all []reflect.Value
	for _, v := range values {
		for _, l := range lists(reflect.ValueOf(v)) {
			if l.Cap() > 0 {
				all = append(all, l)
			}
		}
	}
	for k, a := range all {
		for _, b := range all[:k] {
			if share(a, b) {
				t.Fatalf("%+v and %+v share memory, of %+v", a, b, values)
			}
		}
	}
}

// R3: an argument is as it was behind each call, its inner lists and the room behind all ends too; an answer shares no memory with it, nor with another answer, and no two of its lists do.
func TestArgumentsAndAnswers(t *testing.T) {
	shapes := [][]api.Field{nil, several(), several()[1:2], several()[2:3], {several()[1], several()[0]}, {field("a", full(5), wrongMarks()[0]...)}, {{Name: "a", Cell: api.Cell{Members: full(4).Members, Elems: gone().Elems}}}}
	for _, l := range shapes {
		given := roomy(l)
		was := image(given)
		for _, call := range calls() {
			first, second := call(given), call(given)
			ask(t, "the other answer", second, first)
			if image(given) != was {
				t.Fatalf("the argument: %s, was %s", image(given), was)
			}
			askApart(t, given, first, second)
		}
		ask(t, "the argument", given, l)
	}
}

// R3: fields that are handed in with one list of marks, and with one cell, are answered with two.
func TestOneListTwice(t *testing.T) {
	marks, c := []api.Mark{mk(1, 1, 1), mk(2, 1, 1)}, full(4)
	c.Members[1].Marks = marks
	for _, given := range [][]api.Field{{field("a", c, marks...), field("b", c, marks...)}, {field("b", c, marks...), field("a", c, marks...)}} {
		was := roomy(given)
		for _, call := range calls() {
			askApart(t, call(given), marks)
			askApart(t, call(given), c.Members)
			ask(t, "the argument", given, was)
		}
	}
}

// R3: Check, Read and Find change nothing, and what they answer is the caller's own; a transaction and an op handed in are as they were.
func TestNothingElseIsChanged(t *testing.T) {
	for _, l := range append(sound(), wrong()...) {
		given := roomy(l)
		was := image(given)
		ormap.Check(given)
		askApart(t, given, ormap.Read(given), ormap.Read(given))
		for _, f := range l {
			first, _ := ormap.Find(given, f.Name, f.Cell.Kind)
			second, _ := ormap.Find(given, f.Name, f.Cell.Kind)
			askApart(t, given, first, second)
		}
		if image(given) != was {
			t.Errorf("the argument: %s, was %s", image(given), was)
		}
	}
	x := tx(3, 1, 4, api.Vec{0, 1})
	x.Ops = append(make([]api.Op, 0, 3), change("a", 1, 7, "b"))
	was := image(x)
	for _, kind := range kinds() {
		askApart(t, x, ormap.Drop(ormap.Do(several(), x, 1, change("a", kind, 7, "b")), x, 2, "b", kind))
	}
	if image(x) != was {
		t.Error("ops", x.Ops)
	}
}

// R1, R7: numbers at the ends of what there is lead to answers, and nothing comes round.
func TestExtremes(t *testing.T) {
	ends := []int{math.MinInt, -1, 0, 1, math.MaxInt}
	for _, l := range [][]api.Field{nil, several(), {field("a", fresh(0), mk(1, 1, 1))}} {
		may := ormap.Check(l)
		for _, p := range ends {
			for _, s := range ends {
				x := tx(p, s, p, api.Vec{p, s, p, s, p, s, p, s, p, s, p, s, p})
				for _, i := range ends {
					for _, kind := range append(kinds(), ends...) {
						got := ormap.Do(l, x, i, api.Op{Field: "a", Inner: kind, Act: 1 + kind&3, N: s, Text: "n", Ref: mk(p, s, i)})
						askCheck(t, got, may)
						askCheck(t, ormap.Drop(got, x, i, "a", kind), may)
					}
				}
				folded := ormap.Fold(l, x.Deps)
				askCheck(t, folded, may)
				ask(t, "Read", ormap.Read(folded), ormap.Read(l))
			}
		}
	}
}

// R4, R8: calls know nothing of one another: the same call answers the same, whatever was asked between, and however maps are gone through.
func TestTheSameAgain(t *testing.T) {
	var l []api.Field
	for k := range 200 {
		l = ormap.Do(l, tx(1+k%3, 1+k, k, api.Vec{}), 1, change(fmt.Sprint("f", k*37%50), kinds()[k*7%5], k, "t"))
	}
	askCheck(t, l, true)
	want, read := ormap.Fold(l, api.Vec{0, 90}), ormap.Read(l)
	left := ormap.Drop(l, tx(4, 1, 1, api.Vec{0, 90}), 1, "f1", 2)
	for range 20 {
		ask(t, "Fold", ormap.Fold(l, api.Vec{0, 90}), want)
		ask(t, "Read", ormap.Read(l), read)
		ask(t, "Drop", ormap.Drop(l, tx(4, 1, 1, api.Vec{0, 90}), 1, "f1", 2), left)
		ormap.Do(several(), tx(1, 1, 1, api.Vec{}), 1, change("f1", 2, 0, "t"))
	}
}
