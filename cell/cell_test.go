package cell_test

import (
	"fmt"
	"math"
	"math/rand"
	"reflect"
	"slices"
	"strings"
	"testing"

	"plexus/api"
	"plexus/cell"
	"plexus/counter"
	"plexus/ops"
	"plexus/orset"
	"plexus/register"
	"plexus/seq"
)

// textMost is how many bytes a text has at most, as the document has it.
const textMost = 64

// kinds are the kinds that leaves have, as the document numbers them: Counter, Last, Many, Set, Seq.
func kinds() []int {
	return []int{1, 2, 3, 4, 5}
}

// strangers are kinds that no leaf has: Map and Roster among them.
func strangers() []int {
	return []int{math.MinInt, math.MinInt + 1, -6, -5, -4, -3, -2, -1, 0, 6, 7, 8, 9, 257, 1<<32 + 1, math.MaxInt - 1, math.MaxInt}
}

// acts are all acts, and numbers that are none.
func acts() []int {
	return []int{math.MinInt, -2, -1, 0, api.ActAdd, api.ActDel, api.ActPut, api.ActIns, api.ActDrop, 6, 7, math.MaxInt}
}

// mk answers a Mark.
func mk(peer int, seq int, index int) api.Mark {
	return api.Mark{Dot: api.Dot{Peer: peer, Seq: seq}, Index: index}
}

// tx answers a transaction of that name and time that has seen deps.
func tx(peer int, seq int, time int, deps api.Vec) api.Tx {
	return api.Tx{Dot: api.Dot{Peer: peer, Seq: seq}, Time: time, Deps: deps}
}

// everything is a vector of all that there may be.
func everything() api.Vec {
	var v api.Vec
	for p := 1; p < len(v); p++ {
		v[p] = api.MaxSeq
	}
	return v
}

// fresh answers New of a kind.
func fresh(t *testing.T, kind int) api.Cell {
	t.Helper()
	c, err := cell.New(kind)
	if err != api.OK {
		t.Fatalf("New(%d): %v", kind, err)
	}
	return c
}

// full answers a cell of each kind that Checks, with things of the peers 1 and 2 in it, and of the kinds that fold of some that were folded.
func full(kind int) api.Cell {
	c := api.Cell{Kind: kind}
	switch kind {
	case api.Counter:
		c.Base = -9
		c.Amounts = []api.Amount{{Mark: mk(1, 1, 1), N: 3}, {Mark: mk(1, 1, 2), N: 20}, {Mark: mk(2, 1, 1), N: -400}}
	case api.Last, api.Many:
		c.Writes = []api.Write{{Mark: mk(1, 1, 1), Time: 7, Text: "b"}, {Mark: mk(1, 1, 2), Time: 2, Text: "c"}, {Mark: mk(2, 1, 1), Time: 5, Text: "a"}}
	case api.Set:
		c.Members = []api.Member{{Text: "a", Base: true}, {Text: "b", Marks: []api.Mark{mk(1, 1, 1), mk(2, 1, 1)}}, {Text: "c", Base: true, Marks: []api.Mark{mk(1, 1, 2)}}}
	case api.Seq:
		c.Elems = []api.Elem{
			{Mark: mk(1, 1, 1), Time: 3, Text: "a"},
			{Mark: mk(1, 1, 2), Time: 3, Ref: mk(1, 1, 1), Text: "b", Gone: []api.Mark{mk(1, 2, 1), mk(2, 2, 1)}},
			{Mark: mk(2, 1, 1), Time: 5, Ref: mk(1, 1, 1), Text: "c"},
		}
	}
	return c
}

// sound are cells that Check: of each kind an empty one, a full one, and what becomes of that.
func sound() []api.Cell {
	l := []api.Cell{{Kind: api.Counter, Base: 1 << 60}, {Kind: api.Counter, Base: -1 << 60, Amounts: []api.Amount{{Mark: mk(0, 0, 1), N: -1 << 30}}}}
	for _, kind := range kinds() {
		c := full(kind)
		l = append(l, api.Cell{Kind: kind}, c, layerOf(kind).clear(c, tx(3, 1, 9, api.Vec{0, 1}), 1), layerOf(kind).fold(c, api.Vec{0, 1}))
	}
	return l
}

// contents are the lists, and the bases, of cells of each kind, without their kind.
func contents() []api.Cell {
	l := []api.Cell{{}, {Base: 1}, {Base: -1}, {Base: 1 << 60}, {Base: 1<<60 + 1}, {Base: math.MinInt}}
	for _, kind := range kinds() {
		c := full(kind)
		c.Kind, c.Base = 0, 0
		l = append(l, c)
		c.Base = 4
		l = append(l, c)
	}
	m := mk(1, 1, 1)
	all := api.Cell{Amounts: full(1).Amounts, Writes: full(2).Writes, Members: full(4).Members, Elems: full(5).Elems}
	return append(l, all, api.Cell{Amounts: []api.Amount{{}}}, api.Cell{Writes: []api.Write{{}}}, api.Cell{Members: []api.Member{{}}}, api.Cell{Elems: []api.Elem{{}}},
		api.Cell{Amounts: []api.Amount{{Mark: m}, {Mark: m}}}, api.Cell{Amounts: []api.Amount{{Mark: m, N: 1<<30 + 1}}},
		api.Cell{Writes: []api.Write{{Mark: m}, {Mark: m}}}, api.Cell{Writes: []api.Write{{Mark: m, Text: strings.Repeat("x", textMost+1)}}},
		api.Cell{Members: []api.Member{{Text: "b", Base: true}, {Text: "a", Base: true}}}, api.Cell{Members: []api.Member{{Text: "a", Marks: []api.Mark{m, m}}}},
		api.Cell{Elems: []api.Elem{{Mark: m, Ref: m}}}, api.Cell{Elems: []api.Elem{{Mark: m, Gone: []api.Mark{m, m}}}}, api.Cell{Elems: []api.Elem{{Mark: m, Ref: mk(2, 1, 1)}}})
}

// wrong are cells that do not Check: of each kind with what belongs to another one or may not be there, and of kinds that no leaf has.
func wrong() []api.Cell {
	var l []api.Cell
	for _, kind := range append(kinds(), strangers()...) {
		for _, c := range contents() {
			c.Kind = kind
			if !mayBe(c) {
				l = append(l, c)
			}
		}
	}
	return l
}

// mayBe tells whether its kind's layer says that a cell may be.
func mayBe(c api.Cell) bool {
	return slices.Contains(kinds(), c.Kind) && layerOf(c.Kind).check(c)
}

// act is what an op does to a cell.
type act func(c api.Cell, t api.Tx, i int, o api.Op) api.Cell

// layer is the calls of a kind's layer, and what acts do by it; an act that is not there does nothing.
type layer struct {
	check func(c api.Cell) bool
	acts  map[int]act
	clear func(c api.Cell, t api.Tx, i int) api.Cell
	fold  func(c api.Cell, cut api.Vec) api.Cell
	read  func(c api.Cell) api.Value
}

// layerOf answers the layer of a kind.
func layerOf(kind int) layer {
	switch kind {
	case api.Counter:
		add := func(c api.Cell, t api.Tx, i int, o api.Op) api.Cell { return counter.Do(c, t, i, o.N) }
		return layer{counter.Check, map[int]act{1: add}, counter.Clear, counter.Fold, counter.Read}
	case api.Set:
		add := func(c api.Cell, t api.Tx, i int, o api.Op) api.Cell { return orset.Add(c, t, i, o.Text) }
		del := func(c api.Cell, t api.Tx, i int, o api.Op) api.Cell { return orset.Del(c, t, i, o.Text) }
		return layer{orset.Check, map[int]act{1: add, 2: del}, orset.Clear, orset.Fold, orset.Read}
	case api.Seq:
		ins := func(c api.Cell, t api.Tx, i int, o api.Op) api.Cell { return seq.Ins(c, t, i, o.Ref, o.Text) }
		del := func(c api.Cell, t api.Tx, i int, o api.Op) api.Cell { return seq.Del(c, t, i, o.Ref) }
		return layer{seq.Check, map[int]act{4: ins, 2: del}, seq.Clear, seq.Fold, seq.Read}
	}
	put := func(c api.Cell, t api.Tx, i int, o api.Op) api.Cell { return register.Do(c, t, i, o.Text) }
	stays := func(c api.Cell, cut api.Vec) api.Cell { return c }
	return layer{register.Check, map[int]act{3: put}, register.Clear, stays, register.Read}
}

// do answers what the document asks of Do.
func (l layer) do(c api.Cell, t api.Tx, i int, o api.Op) api.Cell {
	if done, ok := l.acts[o.Act]; ok && i >= 1 && mayBe(c) {
		return done(c, t, i, o)
	}
	return c
}

// sameMember tells whether two members are the same.
func sameMember(a api.Member, b api.Member) bool {
	return a.Text == b.Text && a.Base == b.Base && slices.Equal(a.Marks, b.Marks)
}

// sameElem tells whether two elements are the same.
func sameElem(a api.Elem, b api.Elem) bool {
	return a.Mark == b.Mark && a.Time == b.Time && a.Ref == b.Ref && a.Text == b.Text && slices.Equal(a.Gone, b.Gone)
}

// same tells whether two cells are the same; nil and empty lists are.
func same(a api.Cell, b api.Cell) bool {
	return a.Kind == b.Kind && a.Base == b.Base && slices.Equal(a.Amounts, b.Amounts) && slices.Equal(a.Writes, b.Writes) &&
		slices.EqualFunc(a.Members, b.Members, sameMember) && slices.EqualFunc(a.Elems, b.Elems, sameElem)
}

// ask holds an answer against the cell that is wanted.
func ask(t *testing.T, what string, got api.Cell, want api.Cell) {
	t.Helper()
	if !same(got, want) {
		t.Errorf("%s: %+v, want %+v", what, got, want)
	}
}

// askValue holds what is read of a cell against what is wanted.
func askValue(t *testing.T, c api.Cell, want api.Value) {
	t.Helper()
	got := cell.Read(c)
	if got.Kind != want.Kind || got.N != want.N || !slices.Equal(got.Texts, want.Texts) || len(got.Fields) != 0 {
		t.Errorf("Read(%+v) = %+v, want %+v", c, got, want)
	}
}

// askCheck asks Check.
func askCheck(t *testing.T, c api.Cell, want bool) {
	t.Helper()
	if got := cell.Check(c); got != want {
		t.Errorf("Check(%+v) = %v, want %v", c, got, want)
	}
}

// askEmpty asks Empty.
func askEmpty(t *testing.T, c api.Cell, want bool) {
	t.Helper()
	if got := cell.Empty(c); got != want {
		t.Errorf("Empty(%+v) = %v, want %v", c, got, want)
	}
}

// askKept asks whether a cell Checks, and is of that kind.
func askKept(t *testing.T, c api.Cell, kind int) {
	t.Helper()
	if !cell.Check(c) || c.Kind != kind {
		t.Errorf("%+v is no cell of kind %d", c, kind)
	}
}

// number answers a counter's value.
func number(n int) api.Value {
	return api.Value{Kind: api.Counter, N: n}
}

// texts answers the value of that kind and these texts.
func texts(kind int, l ...string) api.Value {
	return api.Value{Kind: kind, Texts: l}
}

// P12.1: the chapter's example.
func TestExample(t *testing.T) {
	c, err := cell.New(api.Counter)
	if err != 0 {
		t.Error("a counter", err)
	}
	ask(t, "a counter", c, api.Cell{Kind: 1})
	if _, err := cell.New(api.Map); err != 2 {
		t.Error("a map", err)
	}
}

// P12.1: New of each kind from Counter to Seq is a cell of it, all else zero.
func TestNew(t *testing.T) {
	for _, kind := range kinds() {
		c, err := cell.New(kind)
		if err != api.OK {
			t.Errorf("New(%d): %d", kind, err)
		}
		ask(t, "New", c, api.Cell{Kind: kind})
		askCheck(t, c, true)
		askEmpty(t, c, true)
	}
	askValue(t, fresh(t, api.Counter), number(0))
	for _, kind := range kinds()[1:] {
		askValue(t, fresh(t, kind), texts(kind))
	}
}

// P12.1: New of another kind is ErrArg, and all of the cell is zero.
func TestNewOfStrangers(t *testing.T) {
	for _, kind := range strangers() {
		c, err := cell.New(kind)
		if err != 2 {
			t.Errorf("New(%d): %d", kind, err)
		}
		ask(t, "beside an error", c, api.Cell{})
	}
}

// P12.1: Check of what each kind may have, and of what belongs to another one: registers of both kinds have the same, all others just their own.
func TestCheckByKind(t *testing.T) {
	isRegister := func(kind int) bool { return kind == api.Last || kind == api.Many }
	for _, holder := range kinds() {
		askCheck(t, full(holder), true)
		for _, kind := range append(kinds(), strangers()...) {
			c := full(holder)
			c.Kind = kind
			askCheck(t, c, kind == holder || isRegister(kind) && isRegister(holder))
		}
	}
}

// P12.1: Base is a counter's alone.
func TestCheckBase(t *testing.T) {
	for _, kind := range append(kinds(), strangers()...) {
		for _, base := range []int{math.MinInt, -1<<60 - 1, -1 << 60, -1, 0, 1, 1 << 60, 1<<60 + 1, math.MaxInt} {
			counts := kind == api.Counter && base >= -1<<60 && base <= 1<<60
			askCheck(t, api.Cell{Kind: kind, Base: base}, counts || base == 0 && slices.Contains(kinds(), kind))
		}
	}
}

// P12.1: Check is that of its kind's layer, of cells that may be and of cells that may not; empty lists are as nil ones.
func TestCheckIsItsLayers(t *testing.T) {
	for _, c := range sound() {
		askCheck(t, c, true)
		askCheck(t, roomy(c), true)
	}
	for _, c := range wrong() {
		askCheck(t, c, false)
		askCheck(t, roomy(c), false)
	}
	for _, kind := range kinds() {
		for _, c := range contents() {
			c.Kind = kind
			askCheck(t, c, layerOf(kind).check(c))
		}
	}
}

// P12.1: Empty of one that holds anything, be it nothing to be read, is false.
func TestEmptyOfHolders(t *testing.T) {
	for _, kind := range kinds() {
		askEmpty(t, full(kind), false)
	}
	m := mk(1, 1, 1)
	for _, c := range []api.Cell{
		{Kind: 1, Base: 1}, {Kind: 1, Base: -1}, {Kind: 1, Amounts: []api.Amount{{Mark: m}}}, {Kind: 1, Base: -3, Amounts: []api.Amount{{Mark: m, N: 3}}},
		{Kind: 2, Writes: []api.Write{{Mark: m}}}, {Kind: 3, Writes: []api.Write{{Mark: m}}},
		{Kind: 4, Members: []api.Member{{Base: true}}}, {Kind: 4, Members: []api.Member{{Marks: []api.Mark{m}}}},
		{Kind: 5, Elems: []api.Elem{{Mark: m}}}, {Kind: 5, Elems: []api.Elem{{Mark: m, Gone: []api.Mark{m}}}},
	} {
		askCheck(t, c, true)
		askEmpty(t, c, false)
	}
}

// P12.1: Empty of one that does not Check is false, one whose kind is none, and that has nothing in it, too.
func TestEmptyOfWrong(t *testing.T) {
	for _, c := range wrong() {
		askEmpty(t, c, false)
	}
	for _, kind := range strangers() {
		askEmpty(t, api.Cell{Kind: kind}, false)
	}
	askEmpty(t, api.Cell{}, false)
}

// P12.1, R3, R7: empty lists, with room behind them, are as nil ones.
func TestEmptyOfEmptyLists(t *testing.T) {
	for _, kind := range kinds() {
		askEmpty(t, roomy(api.Cell{Kind: kind}), true)
		askEmpty(t, api.Cell{Kind: kind, Amounts: full(1).Amounts[:0], Writes: full(2).Writes[:0], Members: full(4).Members[:0], Elems: full(5).Elems[:0]}, true)
	}
}

// some answers an op that each act finds what it needs in: a number, a text, the mark of an element of a full Seq.
func some(act int) api.Op {
	return api.Op{Act: act, N: 70, Text: "b", Ref: mk(1, 1, 1)}
}

// P12.1: Empty of one that was changed is false; of one that was cleared of all that, true, but of a Seq: its elements are gone, and stay till they are folded.
func TestEmptyOfChangedAndCleared(t *testing.T) {
	first, later := tx(1, 1, 1, api.Vec{}), tx(2, 1, 2, api.Vec{0, 1})
	for kind, act := range map[int]int{1: api.ActAdd, 2: api.ActPut, 3: api.ActPut, 4: api.ActAdd, 5: api.ActIns} {
		o := some(act)
		o.Ref = api.Mark{}
		c := cell.Do(fresh(t, kind), first, 1, o)
		askEmpty(t, c, false)
		askEmpty(t, cell.Clear(c, tx(2, 1, 2, api.Vec{}), 1), false)
		left := cell.Clear(c, later, 1)
		askEmpty(t, left, kind != api.Seq)
		askEmpty(t, cell.Fold(left, api.Vec{0, 1, 1}), true)
		askEmpty(t, cell.Fold(c, everything()), false)
	}
	one := cell.Do(fresh(t, api.Set), first, 1, some(api.ActAdd))
	askEmpty(t, cell.Do(one, later, 1, some(api.ActDel)), true)
	askEmpty(t, cell.Do(one, tx(2, 1, 2, api.Vec{}), 1, some(api.ActDel)), false)
	folded := cell.Fold(cell.Do(fresh(t, api.Counter), first, 1, some(api.ActAdd)), api.Vec{0, 1})
	ask(t, "folded", folded, api.Cell{Kind: 1, Base: 70})
	askEmpty(t, cell.Clear(folded, later, 1), true)
}

// P12.2: what each act does at each kind: those that a kind takes change it so, and with all others it is as it is.
func TestActs(t *testing.T) {
	x := tx(3, 1, 4, api.Vec{0, 1})
	own := mk(3, 1, 2)
	want := map[[2]int]api.Cell{}
	c := full(api.Counter)
	c.Amounts = append(c.Amounts, api.Amount{Mark: own, N: 70})
	want[[2]int{api.Counter, api.ActAdd}] = c
	for _, kind := range []int{api.Last, api.Many} {
		c = full(kind)
		c.Writes = append(c.Writes[2:], api.Write{Mark: own, Time: 4, Text: "b"})
		want[[2]int{kind, api.ActPut}] = c
	}
	c = full(api.Set)
	c.Members[1].Marks = append(c.Members[1].Marks, own)
	want[[2]int{api.Set, api.ActAdd}] = c
	c = full(api.Set)
	c.Members[1].Marks = c.Members[1].Marks[1:]
	want[[2]int{api.Set, api.ActDel}] = c
	c = full(api.Seq)
	c.Elems = append(c.Elems, api.Elem{Mark: own, Time: 4, Ref: mk(1, 1, 1), Text: "b"})
	want[[2]int{api.Seq, api.ActIns}] = c
	c = full(api.Seq)
	c.Elems[0].Gone = []api.Mark{own}
	want[[2]int{api.Seq, api.ActDel}] = c
	changed := 0
	for _, kind := range kinds() {
		for _, act := range acts() {
			w, takes := want[[2]int{kind, act}]
			if takes {
				changed++
			} else {
				w = full(kind)
			}
			ask(t, fmt.Sprint("act ", act, " at ", kind), cell.Do(full(kind), x, 2, some(act)), w)
		}
	}
	if changed != 7 {
		t.Error(changed, "acts are taken")
	}
}

// P12.2: an act that a kind does not take leaves one that is empty as it is, too.
func TestActsOfEmpty(t *testing.T) {
	for _, kind := range kinds() {
		for _, act := range acts() {
			o := some(act)
			o.Ref = api.Mark{}
			c := cell.Do(fresh(t, kind), tx(3, 1, 4, everything()), 1, o)
			changes := layerOf(kind).acts[act] != nil && act != api.ActDel
			if cell.Empty(c) == changes {
				t.Errorf("act %d at %d: %+v", act, kind, c)
			}
			askKept(t, c, kind)
		}
	}
}

// P12.2: ActAdd adds N to a Counter, whatever the Text is, and the Text to a Set, whatever N is.
func TestActAdd(t *testing.T) {
	o := api.Op{Act: api.ActAdd, N: 5, Text: "five"}
	x := tx(2, 3, 1, api.Vec{})
	c := cell.Do(fresh(t, api.Counter), x, 1, o)
	ask(t, "a Counter", c, api.Cell{Kind: 1, Amounts: []api.Amount{{Mark: mk(2, 3, 1), N: 5}}})
	askValue(t, c, number(5))
	s := cell.Do(fresh(t, api.Set), x, 1, o)
	ask(t, "a Set", s, api.Cell{Kind: 4, Members: []api.Member{{Text: "five", Marks: []api.Mark{mk(2, 3, 1)}}}})
	askValue(t, s, texts(api.Set, "five"))
	o.Text, o.N = strings.Repeat("x", textMost+1), 5
	ask(t, "a Counter with a long text", cell.Do(fresh(t, api.Counter), x, 1, o), c)
	o.Text, o.N = "five", math.MaxInt
	ask(t, "a Set with a great number", cell.Do(fresh(t, api.Set), x, 1, o), s)
}

// P12.2: N goes from -MaxAmount to MaxAmount; of one beyond a Counter is as it is.
func TestActAddAmounts(t *testing.T) {
	for _, n := range []int{math.MinInt, -1<<30 - 1, -1 << 30, -1, 0, 1, 1 << 30, 1<<30 + 1, math.MaxInt} {
		c := cell.Do(fresh(t, api.Counter), tx(1, 1, 1, api.Vec{}), 1, api.Op{Act: api.ActAdd, N: n})
		if n < -1<<30 || n > 1<<30 {
			ask(t, "beyond", c, api.Cell{Kind: 1})
			continue
		}
		askValue(t, c, number(n))
		askEmpty(t, c, false)
	}
}

// P12.2: ActDel takes the Text from a Set, whatever Ref is, and the element Ref from a Seq, whatever the Text is.
func TestActDel(t *testing.T) {
	seer := tx(3, 1, 4, everything())
	for _, ref := range []api.Mark{{}, mk(1, 1, 1), mk(9, 9, 9)} {
		c := cell.Do(full(api.Set), seer, 1, api.Op{Act: api.ActDel, Text: "b", Ref: ref, N: 3})
		askValue(t, c, texts(api.Set, "a", "c"))
	}
	for _, text := range []string{"", "a", "b", strings.Repeat("x", textMost+1)} {
		c := cell.Do(full(api.Seq), seer, 1, api.Op{Act: api.ActDel, Text: text, Ref: mk(1, 1, 1), N: 3})
		askValue(t, c, texts(api.Seq, "c"))
	}
}

// P12.2: what is done hangs on the cell's kind and the op's act, not on the op's own kind, key, field and inner kind, nor on t's ops.
func TestOnlyTheActIsAsked(t *testing.T) {
	plain, other := tx(3, 1, 4, api.Vec{0, 1}), tx(3, 1, 4, api.Vec{0, 1})
	other.Ops = []api.Op{{Kind: api.Map, Act: api.ActDrop, N: 4, Text: "other"}, some(api.ActDel)}
	for _, kind := range kinds() {
		for _, act := range acts() {
			want := cell.Do(full(kind), plain, 1, some(act))
			for _, named := range append(kinds(), strangers()...) {
				o := some(act)
				o.Kind, o.Key, o.Field, o.Inner = named, "key", "field", named
				ask(t, "Do", cell.Do(full(kind), other, 1, o), want)
			}
		}
		ask(t, "Clear", cell.Clear(full(kind), other, 1), cell.Clear(full(kind), plain, 1))
	}
}

// P12.2: i of Do goes from 1 on, up to the greatest int; below that it is as it is.
func TestDoIndex(t *testing.T) {
	x := tx(3, 1, 4, everything())
	for _, kind := range kinds() {
		for act, done := range layerOf(kind).acts {
			for _, i := range []int{1, 2, api.MaxOps, api.MaxOps + 1, math.MaxInt} {
				got := cell.Do(full(kind), x, i, some(act))
				ask(t, "from 1 on", got, done(full(kind), x, i, some(act)))
				if same(got, full(kind)) {
					t.Errorf("act %d at %d by %d changes nothing", act, kind, i)
				}
			}
		}
		for _, act := range acts() {
			for _, i := range []int{0, -1, math.MinInt} {
				ask(t, "below", cell.Do(full(kind), x, i, some(act)), full(kind))
				ask(t, "below, of none", cell.Do(fresh(t, kind), x, i, some(act)), fresh(t, kind))
			}
		}
	}
}

// P12.2: i of Clear goes from 1 on, up to the greatest int; below that it is as it is, whatever was seen: a Counter keeps its Base.
func TestClearIndex(t *testing.T) {
	for _, kind := range kinds() {
		for _, x := range []api.Tx{tx(3, 1, 4, everything()), tx(1, 1, 4, api.Vec{}), tx(3, 1, 4, api.Vec{0, 1}), tx(3, 1, 4, api.Vec{})} {
			for _, i := range []int{1, 2, 3, api.MaxOps + 1, math.MaxInt} {
				ask(t, "from 1 on", cell.Clear(full(kind), x, i), layerOf(kind).clear(full(kind), x, i))
			}
			for _, i := range []int{0, -1, math.MinInt} {
				ask(t, "below", cell.Clear(full(kind), x, i), full(kind))
			}
		}
		left := cell.Clear(full(kind), tx(3, 1, 4, everything()), math.MaxInt)
		askEmpty(t, left, kind != api.Seq)
		askEmpty(t, cell.Fold(left, everything()), true)
	}
}

// P12.2: an op has seen those ahead of it in its own transaction, and neither itself nor those behind.
func TestClearOfItsOwn(t *testing.T) {
	x := tx(1, 1, 4, api.Vec{})
	ask(t, "a Counter", cell.Clear(full(api.Counter), x, 2), api.Cell{Kind: 1, Amounts: full(api.Counter).Amounts[1:]})
	for _, kind := range []int{api.Last, api.Many} {
		ask(t, "a register", cell.Clear(full(kind), x, 1), full(kind))
		ask(t, "a register", cell.Clear(full(kind), x, 2), api.Cell{Kind: kind, Writes: full(kind).Writes[1:]})
		ask(t, "a register", cell.Clear(full(kind), x, math.MaxInt), api.Cell{Kind: kind, Writes: full(kind).Writes[2:]})
	}
	askValue(t, cell.Clear(full(api.Set), x, 2), texts(api.Set, "b", "c"))
	askValue(t, cell.Clear(full(api.Set), x, math.MaxInt), texts(api.Set, "b"))
	askValue(t, cell.Clear(full(api.Seq), x, 1), texts(api.Seq, "a", "c"))
	askValue(t, cell.Clear(full(api.Seq), x, 2), texts(api.Seq, "c"))
}

// P12.2: a Text of MaxText bytes is taken, one beyond is not: it is as it is.
func TestTexts(t *testing.T) {
	x := tx(3, 1, 4, everything())
	longest, beyond := strings.Repeat("x", textMost), strings.Repeat("x", textMost+1)
	wide := strings.Repeat("ä", textMost/2)
	for kind, act := range map[int]int{2: api.ActPut, 3: api.ActPut, 4: api.ActAdd, 5: api.ActIns} {
		for _, s := range []string{"", "x", "\x00\xff", longest, wide} {
			c := cell.Do(fresh(t, kind), x, 1, api.Op{Act: act, Text: s})
			askKept(t, c, kind)
			askValue(t, c, texts(kind, s))
			askValue(t, cell.Do(cell.Clear(full(kind), x, 1), x, 2, api.Op{Act: act, Text: s}), texts(kind, s))
		}
		for _, s := range []string{beyond, wide + "x", strings.Repeat("x", 1000)} {
			ask(t, "beyond", cell.Do(full(kind), x, 1, api.Op{Act: act, Text: s, Ref: mk(1, 1, 1)}), full(kind))
			ask(t, "beyond, of none", cell.Do(fresh(t, kind), x, 1, api.Op{Act: act, Text: s}), fresh(t, kind))
		}
	}
	held := cell.Do(fresh(t, api.Set), tx(1, 1, 1, api.Vec{}), 1, api.Op{Act: api.ActAdd, Text: longest})
	ask(t, "Del beyond", cell.Do(held, x, 1, api.Op{Act: api.ActDel, Text: beyond}), held)
	askEmpty(t, cell.Do(held, x, 1, api.Op{Act: api.ActDel, Text: longest}), true)
}

// P12.2: a Ref that is zero, that is an element's Mark, that is one's which the op has seen to be gone, and that is none's.
func TestRefs(t *testing.T) {
	x := tx(3, 1, 4, api.Vec{0, 1, 1})
	ins := func(c api.Cell, ref api.Mark) api.Cell {
		return cell.Do(c, x, 1, api.Op{Act: api.ActIns, Text: "n", Ref: ref})
	}
	askValue(t, ins(full(api.Seq), api.Mark{}), texts(api.Seq, "n", "a", "c"))
	askValue(t, ins(full(api.Seq), mk(1, 1, 1)), texts(api.Seq, "a", "c", "n"))
	askValue(t, ins(full(api.Seq), mk(2, 1, 1)), texts(api.Seq, "a", "c", "n"))
	askValue(t, ins(full(api.Seq), mk(1, 1, 2)), texts(api.Seq, "a", "c", "n"))
	late := cell.Do(full(api.Seq), tx(3, 1, 4, api.Vec{0, 2, 1}), 1, api.Op{Act: api.ActIns, Text: "n", Ref: mk(1, 1, 2)})
	ask(t, "behind one that is gone", late, full(api.Seq))
	for _, ref := range []api.Mark{mk(1, 1, 3), mk(3, 1, 1), mk(0, 0, 1), mk(1, 1, 0), mk(1, 1, math.MaxInt), mk(math.MinInt, 1, 1)} {
		ask(t, "Ins behind none", ins(full(api.Seq), ref), full(api.Seq))
		ask(t, "Ins behind none, of none", ins(fresh(t, api.Seq), ref), fresh(t, api.Seq))
		ask(t, "Del of none", cell.Do(full(api.Seq), x, 1, api.Op{Act: api.ActDel, Ref: ref}), full(api.Seq))
	}
	ask(t, "Del of the zero Mark", cell.Do(full(api.Seq), x, 1, api.Op{Act: api.ActDel}), full(api.Seq))
	askValue(t, cell.Do(full(api.Seq), x, 1, api.Op{Act: api.ActDel, Ref: mk(2, 1, 1)}), texts(api.Seq, "a"))
}

// P12.2: Clear by one who has seen none, some and all of what is there.
func TestClear(t *testing.T) {
	none, first, all := tx(3, 1, 4, api.Vec{}), tx(3, 1, 4, api.Vec{0, 1}), tx(3, 1, 4, api.Vec{0, 1, 1})
	ask(t, "a Counter", cell.Clear(full(api.Counter), none, 1), api.Cell{Kind: 1, Amounts: full(api.Counter).Amounts})
	ask(t, "a Counter", cell.Clear(full(api.Counter), first, 1), api.Cell{Kind: 1, Amounts: full(api.Counter).Amounts[2:]})
	ask(t, "a Counter", cell.Clear(full(api.Counter), all, 1), api.Cell{Kind: 1})
	for _, kind := range []int{api.Last, api.Many} {
		ask(t, "a register", cell.Clear(full(kind), none, 1), full(kind))
		ask(t, "a register", cell.Clear(full(kind), first, 1), api.Cell{Kind: kind, Writes: full(kind).Writes[2:]})
		ask(t, "a register", cell.Clear(full(kind), all, 1), api.Cell{Kind: kind})
	}
	b, c := api.Member{Text: "b", Marks: []api.Mark{mk(1, 1, 1), mk(2, 1, 1)}}, api.Member{Text: "c", Marks: []api.Mark{mk(1, 1, 2)}}
	ask(t, "a Set", cell.Clear(full(api.Set), none, 1), api.Cell{Kind: 4, Members: []api.Member{b, c}})
	b.Marks = b.Marks[1:]
	ask(t, "a Set", cell.Clear(full(api.Set), first, 1), api.Cell{Kind: 4, Members: []api.Member{b}})
	ask(t, "a Set", cell.Clear(full(api.Set), all, 1), api.Cell{Kind: 4})
	ask(t, "a Seq", cell.Clear(full(api.Seq), none, 1), full(api.Seq))
	askValue(t, cell.Clear(full(api.Seq), first, 1), texts(api.Seq, "c"))
	gone := full(api.Seq)
	gone.Elems[0].Gone, gone.Elems[2].Gone = []api.Mark{mk(3, 1, 1)}, []api.Mark{mk(3, 1, 1)}
	gone.Elems[1].Gone = append(gone.Elems[1].Gone, mk(3, 1, 1))
	ask(t, "a Seq", cell.Clear(full(api.Seq), all, 1), gone)
}

// P12.2: Fold by a cut that has none, some and all of the Dots; registers stay as they are.
func TestFold(t *testing.T) {
	some, all := api.Vec{0, 1}, everything()
	for _, kind := range kinds() {
		ask(t, "by none", cell.Fold(full(kind), api.Vec{}), full(kind))
		ask(t, "of none", cell.Fold(fresh(t, kind), all), fresh(t, kind))
	}
	ask(t, "a Counter", cell.Fold(full(api.Counter), some), api.Cell{Kind: 1, Base: 14, Amounts: full(api.Counter).Amounts[2:]})
	ask(t, "a Counter", cell.Fold(full(api.Counter), all), api.Cell{Kind: 1, Base: -386})
	for _, kind := range []int{api.Last, api.Many} {
		ask(t, "a register", cell.Fold(full(kind), some), full(kind))
		ask(t, "a register", cell.Fold(full(kind), all), full(kind))
	}
	c := full(api.Set)
	c.Members[1] = api.Member{Text: "b", Base: true, Marks: []api.Mark{mk(2, 1, 1)}}
	c.Members[2].Marks = nil
	ask(t, "a Set", cell.Fold(full(api.Set), some), c)
	c.Members[1].Marks = nil
	ask(t, "a Set", cell.Fold(full(api.Set), all), c)
	c = full(api.Seq)
	c.Elems = slices.Delete(c.Elems, 1, 2)
	ask(t, "a Seq", cell.Fold(full(api.Seq), some), full(api.Seq))
	ask(t, "a Seq", cell.Fold(full(api.Seq), api.Vec{0, 2}), c)
	ask(t, "a Seq", cell.Fold(full(api.Seq), api.Vec{0, 0, 2}), c)
	ask(t, "a Seq", cell.Fold(full(api.Seq), all), c)
}

// P12.2: a Fold that would take a Counter's Base too far leaves it as it is.
func TestFoldTooFar(t *testing.T) {
	c := api.Cell{Kind: 1, Base: 1 << 60, Amounts: []api.Amount{{Mark: mk(1, 1, 1), N: 1}}}
	ask(t, "too far", cell.Fold(c, everything()), c)
	c.Base--
	ask(t, "as far as it goes", cell.Fold(c, everything()), api.Cell{Kind: 1, Base: 1 << 60})
}

// P12.2: Read of each kind.
func TestRead(t *testing.T) {
	askValue(t, full(api.Counter), number(-386))
	askValue(t, full(api.Last), texts(api.Last, "b"))
	askValue(t, full(api.Many), texts(api.Many, "a", "b", "c"))
	askValue(t, full(api.Set), texts(api.Set, "a", "b", "c"))
	askValue(t, full(api.Seq), texts(api.Seq, "a", "c"))
}

// P12.2: all calls of cells that Check answer what their kind's layer does.
func TestCallsAreTheirLayers(t *testing.T) {
	for _, c := range sound() {
		l := layerOf(c.Kind)
		for _, deps := range []api.Vec{{}, {0, 1}, {0, 0, 1}, {0, 2, 1}, everything()} {
			for _, x := range []api.Tx{tx(1, 1, 9, deps), tx(3, 1, -2, deps), {Deps: deps}} {
				for i := 1; i <= 3; i++ {
					for _, act := range acts() {
						o := some(act)
						ask(t, "Do", cell.Do(c, x, i, o), l.do(c, x, i, o))
						o.Ref, o.Text = api.Mark{}, "n"
						ask(t, "Do", cell.Do(c, x, i, o), l.do(c, x, i, o))
					}
					ask(t, "Clear", cell.Clear(c, x, i), l.clear(c, x, i))
				}
			}
			ask(t, "Fold", cell.Fold(c, deps), l.fold(c, deps))
		}
		askValue(t, c, l.read(c))
	}
}

// P12.2: each call of one that does not Check answers it as it is, Read the zero Value.
func TestCallsOfWrong(t *testing.T) {
	for _, c := range wrong() {
		for _, x := range []api.Tx{tx(3, 9, 5, everything()), tx(1, 1, 5, api.Vec{}), {}} {
			for _, i := range []int{math.MinInt, -1, 0, 1, 2, math.MaxInt} {
				for _, act := range acts() {
					ask(t, "Do", cell.Do(c, x, i, some(act)), c)
					ask(t, "Do", cell.Do(c, x, i, api.Op{Act: act}), c)
				}
				ask(t, "Clear", cell.Clear(c, x, i), c)
			}
			ask(t, "Fold", cell.Fold(c, x.Deps), c)
		}
		ask(t, "Fold", cell.Fold(c, api.Vec{0, 1}), c)
		askValue(t, c, api.Value{})
	}
}

// orders hands each order of a list, from its place k on, to visit.
func orders[T any](l []T, k int, visit func([]T)) {
	if k == len(l) {
		visit(l)
		return
	}
	for i := k; i < len(l); i++ {
		l[k], l[i] = l[i], l[k]
		orders(l, k+1, visit)
		l[k], l[i] = l[i], l[k]
	}
}

// deed is one op of a history: the transaction that it is of, its place, and the op, or that it clears.
type deed struct {
	tx     api.Tx
	index  int
	op     api.Op
	clears bool
}

// done does a deed by cell's calls.
func (d deed) done(c api.Cell) api.Cell {
	if d.clears {
		return cell.Clear(c, d.tx, d.index)
	}
	return cell.Do(c, d.tx, d.index, d.op)
}

// below does a deed by the calls of its kind's layer.
func (d deed) below(c api.Cell) api.Cell {
	if d.clears {
		return layerOf(c.Kind).clear(c, d.tx, d.index)
	}
	return layerOf(c.Kind).do(c, d.tx, d.index, d.op)
}

// mark answers a deed's Mark.
func (d deed) mark() api.Mark {
	return api.Mark{Dot: d.tx.Dot, Index: d.index}
}

// base is the first transaction's op, which all blind deeds have seen: an element, a member, a write or an amount for them to begin with.
func base(kind int) deed {
	act := map[int]int{1: api.ActAdd, 2: api.ActPut, 3: api.ActPut, 4: api.ActAdd, 5: api.ActIns}[kind]
	return deed{tx(1, 1, 1, api.Vec{}), 1, api.Op{Act: act, N: 1000, Text: "a"}, false}
}

// blind are deeds of five peers that have seen the base alone, and not each other, of the acts that the kind takes.
func blind(kind int) []deed {
	by := func(peer int, time int, o api.Op) deed {
		return deed{tx(peer, 1, time, api.Vec{0, 1}), 1, o, false}
	}
	head := mk(1, 1, 1)
	switch kind {
	case api.Counter:
		return []deed{by(2, 4, api.Op{Act: 1, N: 1}), by(3, 3, api.Op{Act: 1, N: -20}), by(4, 9, api.Op{Act: 1, N: 1}), by(5, 1, api.Op{Act: 1}), by(12, 2, api.Op{Act: 1, N: 1 << 30})}
	case api.Set:
		return []deed{by(2, 4, api.Op{Act: 1, Text: "a"}), by(3, 3, api.Op{Act: 2, Text: "a"}), by(4, 9, api.Op{Act: 1, Text: "b"}), by(5, 1, api.Op{Act: 2, Text: "b"}), by(12, 2, api.Op{Act: 1, Text: ""})}
	case api.Seq:
		return []deed{by(2, 4, api.Op{Act: 4, Text: "b", Ref: head}), by(3, 9, api.Op{Act: 4, Text: "c", Ref: head}), by(4, 9, api.Op{Act: 4, Text: "d", Ref: head}), by(5, 1, api.Op{Act: 2, Ref: head}), by(12, 0, api.Op{Act: 4, Text: "e"})}
	}
	return []deed{by(2, 4, api.Op{Act: 3, Text: "x"}), by(3, 9, api.Op{Act: 3, Text: "b"}), by(4, 9, api.Op{Act: 3, Text: "c"}), by(5, 1, api.Op{Act: 3, Text: "b"}), by(12, 2, api.Op{Act: 3, Text: ""})}
}

// blindReads is what is read behind the base and all blind deeds; behind a clear that has seen the base, and the peers 2 and 3; and behind one that has seen all.
func blindReads(kind int) [3]api.Value {
	switch kind {
	case api.Counter:
		return [3]api.Value{number(982 + 1<<30), number(1 + 1<<30), number(0)}
	case api.Last:
		return [3]api.Value{texts(kind, "c"), texts(kind, "c"), texts(kind)}
	case api.Many:
		return [3]api.Value{texts(kind, "", "b", "c", "x"), texts(kind, "", "b", "c"), texts(kind)}
	case api.Set:
		return [3]api.Value{texts(kind, "", "a", "b"), texts(kind, "", "b"), texts(kind)}
	}
	return [3]api.Value{texts(kind, "d", "c", "b", "e"), texts(kind, "d", "e"), texts(kind)}
}

// P12.2, P12.3: New, the ops of several peers that have not seen each other, in every order, then Clear, Fold and Read: each is what the kind's layer makes of it, and the order is nothing.
func TestEveryOrder(t *testing.T) {
	count := 0
	for _, kind := range kinds() {
		start := base(kind).done(fresh(t, kind))
		want := blindReads(kind)
		var first *api.Cell
		orders(blind(kind), 0, func(l []deed) {
			c, below := start, base(kind).below(api.Cell{Kind: kind})
			for _, d := range l {
				c, below = d.done(c), d.below(below)
				ask(t, "Do", c, below)
				askKept(t, c, kind)
			}
			if first == nil {
				first = &c
			}
			ask(t, "another order", c, *first)
			askValue(t, c, want[0])
			askCleared(t, c, api.Vec{0, 1, 1, 1}, want[1])
			askCleared(t, c, everything(), want[2])
			count++
		})
	}
	if count != 600 {
		t.Error(count, "orders")
	}
}

// askCleared asks what is read of a cell behind a Clear by one that has seen deps, and that nothing else is read behind a Fold, by any cut below what it has seen.
func askCleared(t *testing.T, c api.Cell, deps api.Vec, want api.Value) {
	t.Helper()
	x := tx(6, 1, 9, deps)
	left := cell.Clear(c, x, 1)
	ask(t, "Clear", left, layerOf(c.Kind).clear(c, x, 1))
	askKept(t, left, c.Kind)
	askValue(t, left, want)
	for _, cut := range []api.Vec{{}, {0, 1}, deps, everything()} {
		folded := cell.Fold(left, cut)
		ask(t, "Fold", folded, layerOf(c.Kind).fold(left, cut))
		askKept(t, folded, c.Kind)
		askValue(t, folded, want)
	}
	askValue(t, left, layerOf(c.Kind).read(left))
}

// anyOp answers an op of any act, of few numbers and texts, some beyond what may be, and often with the mark of an op that was made ahead of it.
func anyOp(r *rand.Rand, made []api.Mark) api.Op {
	o := api.Op{Act: r.Intn(6), N: r.Intn(9) - 4, Text: string(rune('a' + r.Intn(4)))}
	if r.Intn(3) > 0 && len(made) > 0 {
		o.Ref = made[r.Intn(len(made))]
	}
	if r.Intn(20) == 0 {
		o.Text, o.N = strings.Repeat("x", textMost+r.Intn(2)), 1<<30+r.Intn(2)
	}
	return o
}

// history answers deeds of three peers: each is of a transaction that has seen all that its peer had, and what those had seen.
func history(r *rand.Rand, n int) []deed {
	var l []deed
	var made []api.Mark
	var has [4]api.Vec
	for range n {
		p := 1 + r.Intn(3)
		for q := range has {
			if r.Intn(3) == 0 {
				for k := range has[p] {
					has[p][k] = max(has[p][k], has[q][k])
				}
			}
		}
		x := tx(p, has[p][p]+1, r.Intn(4), has[p])
		for i := range 1 + r.Intn(3) {
			d := deed{x, i + 1, anyOp(r, made), r.Intn(8) == 0}
			l, made = append(l, d), append(made, d.mark())
		}
		has[p][p]++
	}
	return l
}

// ready tells whether all that a deed has seen, of a history, is among those that were done.
func ready(d deed, all []deed, done []deed) bool {
	for _, q := range all {
		is := func(d deed) bool { return d.mark() == q.mark() }
		if ops.Before(q.mark(), d.tx, d.index) && !slices.ContainsFunc(done, is) {
			return false
		}
	}
	return true
}

// cutOf answers a cut that all that is to come has seen: all that there may be, if nothing is.
func cutOf(left []deed) api.Vec {
	cut := everything()
	for _, d := range left {
		for p := range cut {
			cut[p] = min(cut[p], d.tx.Deps[p])
		}
	}
	return cut
}

// P12.2, P12.3: many histories of all acts, done in many orders, each op behind all that it has seen, with folds in between: each cell is what its kind's layer makes of it, Checks, and is of its kind.
func TestHistories(t *testing.T) {
	for seed := range int64(200) {
		r := rand.New(rand.NewSource(seed))
		all := history(r, 2+r.Intn(8))
		kind := kinds()[seed%5]
		for range 4 {
			c, below := fresh(t, kind), api.Cell{Kind: kind}
			left, done := slices.Clone(all), []deed{}
			for len(left) > 0 {
				k := r.Intn(len(left))
				if !ready(left[k], all, done) {
					continue
				}
				c, below = left[k].done(c), left[k].below(below)
				done, left = append(done, left[k]), slices.Delete(left, k, k+1)
				if r.Intn(3) == 0 {
					was := cell.Read(c)
					c, below = cell.Fold(c, cutOf(left)), layerOf(kind).fold(below, cutOf(left))
					askValue(t, c, was)
				}
				ask(t, "so far", c, below)
				askKept(t, c, kind)
				askValue(t, c, layerOf(kind).read(below))
				nothing := c.Base == 0 && len(c.Amounts)+len(c.Writes)+len(c.Members)+len(c.Elems) == 0
				askEmpty(t, c, nothing)
			}
		}
	}
}

// P12.3: what becomes of one that Checks does Check, and is of its kind, whatever calls are given; one that does not, does not behind any call.
func TestCallsKeepCheck(t *testing.T) {
	for _, call := range calls() {
		for _, c := range sound() {
			askKept(t, call(c), c.Kind)
		}
		for _, c := range shapes() {
			got := call(c)
			askCheck(t, got, mayBe(c))
			if got.Kind != c.Kind {
				t.Errorf("%+v became %+v", c, got)
			}
		}
	}
}

// calls are calls of each function that answers a cell.
func calls() []func(api.Cell) api.Cell {
	var l []func(api.Cell) api.Cell
	for _, deps := range []api.Vec{{}, {0, 1}, everything(), {9, 1, math.MaxInt, -4, 1, 1, 1, 1, 1, 1, 1, 1, math.MinInt}} {
		for _, x := range []api.Tx{tx(1, 1, 3, deps), tx(13, 1, -9, deps), {Deps: deps}} {
			for _, i := range []int{0, 1, 2, math.MaxInt} {
				l = append(l, func(c api.Cell) api.Cell { return cell.Clear(c, x, i) })
				for act := range 7 {
					for _, o := range []api.Op{some(act), {Act: act}, {Act: act, N: math.MaxInt, Text: strings.Repeat("x", textMost+1), Ref: mk(9, 9, 9)}} {
						l = append(l, func(c api.Cell) api.Cell { return cell.Do(c, x, i, o) })
					}
				}
			}
		}
		l = append(l, func(c api.Cell) api.Cell { return cell.Fold(c, deps) })
	}
	return l
}

// shapes are of each kind a full cell and an empty one, and one that holds what all kinds do; and the same of kinds that are none.
func shapes() []api.Cell {
	var l []api.Cell
	for _, kind := range append(kinds(), math.MinInt, -1, 0, api.Map, api.Roster, math.MaxInt) {
		all := api.Cell{Kind: kind, Base: 5, Amounts: full(1).Amounts, Writes: full(2).Writes, Members: full(4).Members, Elems: full(5).Elems}
		l = append(l, full(kind), api.Cell{Kind: kind}, all)
	}
	return l
}

// deep answers a value that is the same, of new memory, each list with some room behind its end.
func deep(v reflect.Value) reflect.Value {
	made := v
	switch v.Kind() {
	case reflect.Slice:
		made = reflect.MakeSlice(v.Type(), v.Len(), v.Len()+3)
		for k := range v.Len() {
			made.Index(k).Set(deep(v.Index(k)))
		}
	case reflect.Struct:
		made = reflect.New(v.Type()).Elem()
		for k := range v.NumField() {
			made.Field(k).Set(deep(v.Field(k)))
		}
	}
	return made
}

// roomy answers a cell that is the same, of new memory, with room behind its lists' ends.
func roomy(c api.Cell) api.Cell {
	return deep(reflect.ValueOf(c)).Interface().(api.Cell)
}

// lists answers all lists of a value, inner ones too, each with the room behind its end.
func lists(v reflect.Value) []reflect.Value {
	var all []reflect.Value
	switch v.Kind() {
	case reflect.Slice:
		v = v.Slice(0, v.Cap())
		all = append(all, v)
		for k := range v.Len() {
			all = append(all, lists(v.Index(k))...)
		}
	case reflect.Struct:
		for k := range v.NumField() {
			all = append(all, lists(v.Field(k))...)
		}
	}
	return all
}

// image tells all that a value's lists hold, and the room behind their ends.
func image(v any) string {
	var b strings.Builder
	for _, l := range lists(reflect.ValueOf(v)) {
		fmt.Fprintf(&b, "%+v\n", l)
	}
	return b.String()
}

// share tells whether two lists have memory in common.
func share(a reflect.Value, b reflect.Value) bool {
	size := func(v reflect.Value) uintptr { return uintptr(v.Cap()) * v.Type().Elem().Size() }
	return size(a) > 0 && size(b) > 0 && a.Pointer() < b.Pointer()+size(b) && b.Pointer() < a.Pointer()+size(a)
}

// askApart asks whether no two of all these values' lists have memory in common.
func askApart(t *testing.T, values ...any) {
	t.Helper()
	var all []reflect.Value
	for _, v := range values {
		all = append(all, lists(reflect.ValueOf(v))...)
	}
	for k, a := range all {
		for _, b := range all[:k] {
			if share(a, b) {
				t.Fatalf("%+v and %+v share memory, of %+v", a, b, values)
			}
		}
	}
}

// R3: an argument is as it was behind each call, its inner lists and the room behind all ends too; an answer shares no memory with it, nor with another answer, and no two of its lists do.
func TestArgumentsAndAnswers(t *testing.T) {
	for _, c := range shapes() {
		given := roomy(c)
		was := image(given)
		for _, call := range calls() {
			first, second := call(given), call(given)
			ask(t, "the argument", given, c)
			ask(t, "the other answer", second, first)
			if image(given) != was {
				t.Fatalf("the room behind: %s, was %s", image(given), was)
			}
			askApart(t, given, first, second)
		}
	}
}

// R3: two members, and two elements, that are handed in with one list of marks are answered with two; of one that does not Check, too.
func TestOneListTwice(t *testing.T) {
	marks := []api.Mark{mk(1, 1, 1), mk(2, 1, 1)}
	members := []api.Member{{Text: "a", Marks: marks}, {Text: "b", Marks: marks}}
	elems := []api.Elem{{Mark: mk(1, 1, 1), Gone: marks}, {Mark: mk(2, 1, 1), Gone: marks}}
	for _, given := range []api.Cell{{Kind: 4, Members: members}, {Kind: 5, Elems: elems}, {Kind: 2, Members: members, Elems: elems}, {Members: members, Elems: elems}, {Kind: 6, Members: members, Elems: elems}} {
		was := roomy(given)
		for _, call := range calls() {
			askApart(t, call(given), marks)
			ask(t, "the argument", given, was)
		}
	}
}

// R3: New, Check, Empty and Read change nothing, and what they answer is the caller's own; a transaction handed in is as it was.
func TestNothingElseIsChanged(t *testing.T) {
	for _, c := range append(sound(), wrong()...) {
		given := roomy(c)
		was := image(given)
		cell.Check(given)
		cell.Empty(given)
		askApart(t, given, cell.Read(given), cell.Read(given))
		ask(t, "the argument", given, c)
		if image(given) != was {
			t.Errorf("the room behind: %s, was %s", image(given), was)
		}
	}
	x := tx(3, 1, 4, api.Vec{0, 1})
	x.Ops = append(make([]api.Op, 0, 3), some(api.ActAdd))
	was := image(x)
	for _, kind := range kinds() {
		askApart(t, fresh(t, kind), fresh(t, kind))
		for _, act := range acts() {
			askApart(t, x, cell.Clear(cell.Do(full(kind), x, 1, some(act)), x, 2))
		}
	}
	if image(x) != was {
		t.Error("ops", x.Ops)
	}
}

// R1, R7: numbers at the ends of what there is lead to answers, of cells of all kinds and of none, and nothing comes round.
func TestExtremes(t *testing.T) {
	ends := []int{math.MinInt, -1, 0, 1, math.MaxInt}
	for _, c := range shapes() {
		for _, p := range ends {
			for _, s := range ends {
				x := tx(p, s, p, api.Vec{p, s, p, s, p, s, p, s, p, s, p, s, p})
				for _, i := range ends {
					for _, act := range acts() {
						got := cell.Do(c, x, i, api.Op{Act: act, N: s, Text: "n", Ref: mk(p, s, i)})
						askCheck(t, got, mayBe(c))
						cell.Read(got)
					}
					left := cell.Clear(c, x, i)
					askCheck(t, left, mayBe(c))
					askEmpty(t, left, mayBe(left) && same(left, api.Cell{Kind: c.Kind}))
				}
				askCheck(t, cell.Fold(c, x.Deps), mayBe(c))
			}
		}
	}
}

// R4, R8: calls know nothing of one another: the same call answers the same, whatever was asked between.
func TestTheSameAgain(t *testing.T) {
	for _, kind := range kinds() {
		x := tx(3, 1, 4, api.Vec{0, 1})
		for _, act := range acts() {
			want, value := cell.Do(full(kind), x, 1, some(act)), cell.Read(full(kind))
			for _, other := range kinds() {
				cell.Do(full(other), x, 1, some(act))
				cell.Clear(full(other), x, 1)
				cell.Fold(full(other), everything())
				ask(t, "again", cell.Do(full(kind), x, 1, some(act)), want)
				askValue(t, full(kind), value)
			}
		}
	}
}
