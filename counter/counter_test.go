package counter_test

import (
	"math"
	"math/rand"
	"slices"
	"testing"

	"plexus/api"
	"plexus/counter"
	"plexus/ops"
	"plexus/vec"
)

// The ends of what a counter may hold, as the document has them.
const (
	baseMost   = 1152921504606846976
	amountMost = 1073741824
)

// dot answers a Dot.
func dot(peer int, seq int) api.Dot {
	return api.Dot{Peer: peer, Seq: seq}
}

// am answers an Amount.
func am(peer int, seq int, index int, n int) api.Amount {
	return api.Amount{Mark: api.Mark{Dot: dot(peer, seq), Index: index}, N: n}
}

// tx answers a transaction of that name that has seen deps.
func tx(peer int, seq int, deps api.Vec) api.Tx {
	return api.Tx{Dot: dot(peer, seq), Deps: deps}
}

// cell answers the counter of that base and these amounts, in that order.
func cell(base int, l ...api.Amount) api.Cell {
	return api.Cell{Kind: api.Counter, Base: base, Amounts: l}
}

// do does the op that makes an amount.
func do(c api.Cell, a api.Amount) api.Cell {
	return counter.Do(c, tx(a.Mark.Dot.Peer, a.Mark.Dot.Seq, api.Vec{}), a.Mark.Index, a.N)
}

// several are amounts of several peers, rising.
func several() []api.Amount {
	return []api.Amount{am(1, 1, 1, 3), am(1, 1, 2, -5), am(1, 2, 1, 7), am(2, 1, 1, 11), am(2, 1, 16, 0), am(12, 4, 3, -100)}
}

// sameMember tells whether two members are the same.
func sameMember(a api.Member, b api.Member) bool {
	return a.Text == b.Text && a.Base == b.Base && slices.Equal(a.Marks, b.Marks)
}

// sameElem tells whether two elements are the same.
func sameElem(a api.Elem, b api.Elem) bool {
	return a.Mark == b.Mark && a.Time == b.Time && a.Ref == b.Ref && a.Text == b.Text && slices.Equal(a.Gone, b.Gone)
}

// same tells whether two cells are the same; nil and empty lists are.
func same(a api.Cell, b api.Cell) bool {
	return a.Kind == b.Kind && a.Base == b.Base && slices.Equal(a.Amounts, b.Amounts) && slices.Equal(a.Writes, b.Writes) &&
		slices.EqualFunc(a.Members, b.Members, sameMember) && slices.EqualFunc(a.Elems, b.Elems, sameElem)
}

// isNumber tells whether a value is a Counter's, of n.
func isNumber(v api.Value, n int) bool {
	return v.Kind == api.Counter && v.N == n && len(v.Texts) == 0 && len(v.Fields) == 0
}

// isNothing tells whether a value is the zero Value.
func isNothing(v api.Value) bool {
	return v.Kind == 0 && v.N == 0 && len(v.Texts) == 0 && len(v.Fields) == 0
}

// ask holds an answer against the cell that is wanted.
func ask(t *testing.T, what string, got api.Cell, want api.Cell) {
	t.Helper()
	if !same(got, want) {
		t.Errorf("%s: %+v, want %+v", what, got, want)
	}
}

// askRead holds what is read of a cell against the number that is wanted.
func askRead(t *testing.T, c api.Cell, n int) {
	t.Helper()
	if got := counter.Read(c); !isNumber(got, n) {
		t.Errorf("Read(%+v) = %+v, want %d", c, got, n)
	}
}

// askCheck asks Check.
func askCheck(t *testing.T, c api.Cell, want bool) {
	t.Helper()
	if got := counter.Check(c); got != want {
		t.Errorf("Check(%+v) = %v, want %v", c, got, want)
	}
}

// others are the lists of other kinds' cells, one at a time and all at once.
func others() []api.Cell {
	m := am(1, 1, 1, 0).Mark
	l := []api.Cell{
		{Writes: []api.Write{{}}},
		{Writes: []api.Write{{Mark: m, Time: 1, Text: "x"}, {Mark: m}}},
		{Members: []api.Member{{}}},
		{Members: []api.Member{{Text: "x", Base: true}, {Text: "y", Marks: []api.Mark{m, m}}}},
		{Elems: []api.Elem{{}}},
		{Elems: []api.Elem{{Mark: m, Time: 2, Ref: m, Text: "x", Gone: []api.Mark{m}}, {Gone: []api.Mark{m, m}}}},
	}
	all := api.Cell{}
	for _, c := range l {
		all.Writes, all.Members, all.Elems = append(all.Writes, c.Writes...), append(all.Members, c.Members...), append(all.Elems, c.Elems...)
	}
	return append(l, all)
}

// wrongAmounts are lists of amounts that no counter has: out of order, with one Mark twice, of an N or an Index that may not be, at every place of a list.
func wrongAmounts() [][]api.Amount {
	l := [][]api.Amount{
		{am(2, 1, 1, 1), am(1, 1, 1, 1)}, {am(1, 2, 1, 1), am(1, 1, 1, 1)}, {am(1, 1, 2, 1), am(1, 1, 1, 1)},
		{am(2, 1, 1, 1), am(1, 2, 2, 1)}, {am(1, 2, 1, 1), am(1, 1, 2, 1)},
		{am(1, 1, 1, 1), am(1, 1, 1, 1)}, {am(1, 1, 1, 1), am(1, 1, 1, 2)}, {am(1, 1, 1, 2), am(1, 1, 1, 1)},
	}
	for i := range several() {
		for _, n := range []int{-amountMost - 1, amountMost + 1, math.MinInt, math.MaxInt} {
			x := several()
			x[i].N = n
			l = append(l, x, x[i:i+1])
		}
		for _, index := range []int{0, -1, math.MinInt} {
			x := several()
			x[i].Mark.Index = index
			l = append(l, x, x[i:i+1])
		}
		x := several()
		l = append(l, slices.Insert(several(), i, x[i]))
		if i > 0 {
			x[i-1], x[i] = x[i], x[i-1]
			l = append(l, x)
		}
	}
	return l
}

// wrong are cells that do not Check.
func wrong() []api.Cell {
	l := []api.Cell{{}, {Base: 5}, {Amounts: several()}}
	for _, kind := range []int{math.MinInt, -1, 0, api.Last, api.Many, api.Set, api.Seq, api.Map, api.Roster, 8, math.MaxInt} {
		c := cell(4, several()...)
		c.Kind = kind
		l = append(l, c, api.Cell{Kind: kind})
	}
	for _, base := range []int{-baseMost - 1, baseMost + 1, math.MinInt, math.MaxInt} {
		l = append(l, cell(base), cell(base, several()...))
	}
	for _, a := range wrongAmounts() {
		l = append(l, cell(4, a...))
	}
	for _, c := range others() {
		l = append(l, c)
		c.Kind = api.Counter
		l = append(l, c)
		c.Amounts = several()
		l = append(l, c)
	}
	return l
}

// sound are cells that Check.
func sound() []api.Cell {
	return []api.Cell{
		cell(0), cell(7), cell(-baseMost), cell(baseMost), cell(0, am(1, 1, 1, 3)), cell(0, am(12, api.MaxSeq, api.MaxOps, -3)),
		cell(-9, several()...), cell(baseMost, several()...), cell(-baseMost, several()...), cell(1, several()[:3]...),
	}
}

// P8.1 to P8.3: the chapter's example.
func TestExample(t *testing.T) {
	c := do(do(cell(0), am(1, 1, 1, 3)), am(2, 1, 1, 4))
	askRead(t, c, 7)
	cleared := counter.Clear(c, tx(3, 1, api.Vec{0, 1}), 1)
	askRead(t, cleared, 4)
	ask(t, "cleared", cleared, cell(0, am(2, 1, 1, 4)))
}

// P8.1: what may be: no amount, one, several; empty lists are as nil ones.
func TestCheckOfSound(t *testing.T) {
	for _, c := range sound() {
		askCheck(t, c, true)
		c.Writes, c.Members, c.Elems = []api.Write{}, []api.Member{}, []api.Elem{}
		askCheck(t, c, true)
		c.Writes, c.Members, c.Elems = make([]api.Write, 0, 3), make([]api.Member, 0, 3), make([]api.Elem, 0, 3)
		askCheck(t, c, true)
	}
	c := cell(0)
	c.Amounts = []api.Amount{}
	askCheck(t, c, true)
}

// P8.1: what may not: other kinds, other lists, bases and amounts beyond what is allowed, amounts that do not rise.
func TestCheckOfWrong(t *testing.T) {
	for _, c := range wrong() {
		askCheck(t, c, false)
	}
}

// P8.1: each kind, at the ends and beyond: a Counter alone is one.
func TestCheckKind(t *testing.T) {
	for kind := -2; kind <= 9; kind++ {
		askCheck(t, api.Cell{Kind: kind}, kind == 1)
		askCheck(t, api.Cell{Kind: kind, Base: 3, Amounts: several()}, kind == 1)
	}
}

// P8.1: Base goes from -2^60 to 2^60.
func TestCheckBase(t *testing.T) {
	for _, base := range []int{-baseMost, -baseMost + 1, -1, 0, 1, baseMost - 1, baseMost} {
		askCheck(t, cell(base), true)
		askCheck(t, cell(base, several()...), true)
	}
	for _, base := range []int{-baseMost - 1, baseMost + 1, math.MinInt, math.MaxInt} {
		askCheck(t, cell(base), false)
		askCheck(t, cell(base, several()...), false)
	}
}

// P8.1: an N goes from -MaxAmount to MaxAmount, an Index from 1 on, at each place of a list.
func TestCheckAmount(t *testing.T) {
	for i := range several() {
		for _, n := range []int{-amountMost, -amountMost + 1, -1, 0, 1, amountMost - 1, amountMost} {
			l := several()
			l[i].N = n
			askCheck(t, cell(0, l...), true)
		}
		for _, n := range []int{-amountMost - 1, amountMost + 1, math.MinInt, math.MaxInt} {
			l := several()
			l[i].N = n
			askCheck(t, cell(0, l...), false)
		}
	}
	for _, index := range []int{1, 2, api.MaxOps, api.MaxOps + 1, math.MaxInt} {
		askCheck(t, cell(0, am(1, 1, index, 1)), true)
		askCheck(t, cell(0, am(1, 1, index, 1), am(1, 2, 1, 1)), true)
		askCheck(t, cell(0, am(1, 0, 1, 1), am(1, 1, index, 1)), true)
	}
	for _, index := range []int{0, -1, math.MinInt} {
		askCheck(t, cell(0, am(1, 1, index, 1)), false)
		askCheck(t, cell(0, am(1, 1, index, 1), am(1, 2, 1, 1)), false)
		askCheck(t, cell(0, am(1, 0, 1, 1), am(1, 1, index, 1)), false)
	}
}

// P8.1: nothing is asked of a Dot, but that marks rise: the zero Dot is an open transaction's.
func TestCheckAnyDot(t *testing.T) {
	askCheck(t, cell(0, am(0, 0, 1, 1)), true)
	askCheck(t, cell(0, am(0, 0, 1, 1), am(1, 1, 1, 1)), true)
	askCheck(t, cell(0, am(math.MinInt, math.MaxInt, 1, 1), am(-1, 3, 1, 1), am(13, math.MinInt, 2, 1), am(13, -1, 1, 1), am(math.MaxInt, 0, 1, 1)), true)
}

// P8.1: amounts rise: of all lists of up to three of eight marks, just those that do Check.
func TestCheckRising(t *testing.T) {
	var marks []api.Mark
	for k := range 8 {
		marks = append(marks, am(1+k>>2, 1+k>>1&1, 1+k&1, 0).Mark)
	}
	for a := range marks {
		for b := range marks {
			two := cell(0, api.Amount{Mark: marks[a]}, api.Amount{Mark: marks[b]})
			askCheck(t, two, a < b)
			for c := range marks {
				three := cell(0, api.Amount{Mark: marks[a]}, api.Amount{Mark: marks[b]}, api.Amount{Mark: marks[c]})
				askCheck(t, three, a < b && b < c)
			}
		}
	}
}

// P8.1: calls of one that does not Check answer it as it is, Read the zero Value.
func TestCallsOfWrong(t *testing.T) {
	seer := tx(3, 9, api.Vec{0, 9, 9, 8, 9, 9, 9, 9, 9, 9, 9, 9, 9})
	for _, c := range wrong() {
		for i := -1; i <= 2; i++ {
			ask(t, "Do", counter.Do(c, seer, i, 3), c)
			ask(t, "Clear", counter.Clear(c, seer, i), c)
		}
		ask(t, "Do beyond", counter.Do(c, seer, 1, amountMost+1), c)
		ask(t, "Fold of all", counter.Fold(c, seer.Deps), c)
		ask(t, "Fold of none", counter.Fold(c, api.Vec{}), c)
		if got := counter.Read(c); !isNothing(got) {
			t.Errorf("Read(%+v) = %+v", c, got)
		}
	}
}

// P8.2: Do puts an amount where its mark belongs: to the front, the middle, the end, or where there is none.
func TestDoPlaces(t *testing.T) {
	ask(t, "none", do(cell(5), am(3, 1, 1, 9)), cell(5, am(3, 1, 1, 9)))
	l := several()
	for i, a := range l {
		rest := slices.Delete(several(), i, i+1)
		ask(t, "one more", do(cell(-4, rest...), a), cell(-4, l...))
	}
	for _, a := range []api.Amount{am(0, 0, 1, 8), am(-1, 3, 1, 8), am(1, 1, 3, 8), am(1, 3, 1, 8), am(2, 1, 2, 8), am(5, 1, 1, 8), am(12, 4, 4, 8), am(12, 5, 1, 8), am(13, 1, 1, 8)} {
		got := do(cell(2, l...), a)
		at := slices.Index(got.Amounts, a)
		if at < 0 || !counter.Check(got) || got.Base != 2 || !slices.Equal(slices.Delete(slices.Clone(got.Amounts), at, at+1), l) {
			t.Errorf("Do of %+v: %+v", a, got)
		}
	}
}

// P8.2: a Do of a mark that is there answers what is there, with the same n and with another one.
func TestDoAgain(t *testing.T) {
	c := cell(6, several()...)
	for _, a := range several() {
		for _, n := range []int{a.N, a.N + 1, -a.N, 0, amountMost, -amountMost, amountMost + 1} {
			a.N = n
			ask(t, "again", do(c, a), c)
		}
	}
	one := do(cell(0), am(1, 1, 1, 3))
	ask(t, "twice", do(one, am(1, 1, 1, 3)), one)
	ask(t, "with another n", do(one, am(1, 1, 1, 4)), one)
}

// P8.2: n goes from -MaxAmount to MaxAmount; beyond it is as it is.
func TestDoAmounts(t *testing.T) {
	for _, c := range sound() {
		for _, n := range []int{-amountMost, -amountMost + 1, -1, 0, 1, amountMost - 1, amountMost} {
			got := do(c, am(4, 1, 1, n))
			if len(got.Amounts) != len(c.Amounts)+1 || !slices.Contains(got.Amounts, am(4, 1, 1, n)) || got.Base != c.Base {
				t.Errorf("Do of %d: %+v", n, got)
			}
		}
		for _, n := range []int{-amountMost - 1, amountMost + 1, math.MinInt, math.MaxInt} {
			ask(t, "beyond", do(c, am(4, 1, 1, n)), c)
		}
	}
}

// P8.2: i goes from 1 on; below that it is as it is.
func TestDoIndex(t *testing.T) {
	for _, c := range sound() {
		for _, i := range []int{1, 2, api.MaxOps, api.MaxOps + 1, math.MaxInt} {
			got := do(c, am(4, 1, i, 5))
			if len(got.Amounts) != len(c.Amounts)+1 || !slices.Contains(got.Amounts, am(4, 1, i, 5)) || !counter.Check(got) {
				t.Errorf("Do of %d: %+v", i, got)
			}
		}
		for _, i := range []int{0, -1, math.MinInt} {
			ask(t, "below", do(c, am(4, 1, i, 5)), c)
		}
	}
}

// P8.2: of t its Dot alone counts to Do: neither what it has seen, nor its time, nor its ops.
func TestDoAsksDotAlone(t *testing.T) {
	c := cell(1, several()...)
	x := api.Tx{Dot: dot(5, 2), Deps: api.Vec{9, -1, 9, 9, 9, 9}, Time: -3, Ops: []api.Op{{Kind: api.Set, N: 44}, {N: 45}}}
	ask(t, "Do", counter.Do(c, x, 1, 8), do(c, am(5, 2, 1, 8)))
	ask(t, "Do of a zero tx", counter.Do(cell(0), api.Tx{}, 2, 8), cell(0, am(0, 0, 2, 8)))
}

// P8.2: Clear of an op that has seen none, some, all.
func TestClear(t *testing.T) {
	l := several()
	all := api.Vec{0, 2, 1, 0, 0, 0, 0, 0, 0, 0, 0, 0, 4}
	for _, c := range []struct {
		deps api.Vec
		left []api.Amount
	}{
		{api.Vec{}, l},
		{api.Vec{0, 0, 0, 9}, l},
		{api.Vec{0, 1}, l[2:]},
		{api.Vec{0, 2}, l[3:]},
		{api.Vec{0, 9}, l[3:]},
		{api.Vec{0, 0, 1}, []api.Amount{l[0], l[1], l[2], l[5]}},
		{api.Vec{0, 1, 1}, []api.Amount{l[2], l[5]}},
		{api.Vec{0, 2, 1, 0, 0, 0, 0, 0, 0, 0, 0, 0, 3}, l[5:]},
		{all, nil},
	} {
		for _, base := range []int{0, 5, -5, baseMost, -baseMost} {
			ask(t, "Clear", counter.Clear(cell(base, l...), tx(5, 1, c.deps), 1), cell(0, c.left...))
			ask(t, "Clear of none", counter.Clear(cell(base), tx(5, 1, c.deps), 1), cell(0))
		}
	}
}

// P8.2: an op has seen those ahead of it in its own transaction, and neither itself nor those behind.
func TestClearOwn(t *testing.T) {
	l := []api.Amount{am(1, 1, 1, 1), am(2, 3, 1, 2), am(2, 3, 2, 4), am(2, 3, 3, 8), am(2, 4, 1, 16)}
	c := cell(100, l...)
	for i, want := range [][]api.Amount{l, l, {l[0], l[2], l[3], l[4]}, {l[0], l[3], l[4]}, {l[0], l[4]}, {l[0], l[4]}} {
		ask(t, "Clear", counter.Clear(c, tx(2, 3, api.Vec{}), i), cell(0, want...))
	}
	ask(t, "below", counter.Clear(c, tx(2, 3, api.Vec{}), math.MinInt), cell(0, l...))
	ask(t, "above", counter.Clear(c, tx(2, 3, api.Vec{}), math.MaxInt), cell(0, l[0], l[4]))
	ask(t, "both", counter.Clear(c, tx(2, 3, api.Vec{0, 1, 2}), 2), cell(0, l[2:]...))
	ask(t, "an open one's", counter.Clear(cell(3, am(0, 0, 1, 1), am(0, 0, 2, 1)), api.Tx{}, 2), cell(0, am(0, 0, 2, 1)))
}

// P8.2: what Clear leaves is what ops' Before does not tell, of all small histories.
func TestClearOfAll(t *testing.T) {
	c := smallCell()
	for _, x := range smallTxs() {
		for i := -1; i <= 4; i++ {
			want := cell(0)
			for _, a := range c.Amounts {
				if !ops.Before(a.Mark, x, i) {
					want.Amounts = append(want.Amounts, a)
				}
			}
			ask(t, "Clear", counter.Clear(c, x, i), want)
		}
	}
}

// smallCell has an amount of every mark of three peers, up to two transactions and two ops of each.
func smallCell() api.Cell {
	c := cell(1 << 20)
	for k := range 12 {
		c.Amounts = append(c.Amounts, am(1+k>>2, 1+k>>1&1, 1+k&1, 1<<k))
	}
	return c
}

// smallVecs are all vectors of three peers with 0 to 2 of each.
func smallVecs() []api.Vec {
	var l []api.Vec
	for k := range 27 {
		l = append(l, api.Vec{0, k % 3, k / 3 % 3, k / 9})
	}
	return l
}

// smallTxs are transactions of three peers that have seen each small vector.
func smallTxs() []api.Tx {
	var l []api.Tx
	for _, v := range smallVecs() {
		for k := range 9 {
			l = append(l, tx(1+k%3, 1+k/3, v))
		}
	}
	return l
}

// P8.2: Fold by a cut that has none, some, all.
func TestFold(t *testing.T) {
	l := several()
	for _, c := range []struct {
		cut  api.Vec
		base int
		left []api.Amount
	}{
		{api.Vec{}, 10, l},
		{api.Vec{9, 0, 0, 9}, 10, l},
		{api.Vec{0, 1}, 8, l[2:]},
		{api.Vec{0, 2}, 15, l[3:]},
		{api.Vec{0, 0, 1}, 21, []api.Amount{l[0], l[1], l[2], l[5]}},
		{api.Vec{0, 1, 1}, 19, []api.Amount{l[2], l[5]}},
		{api.Vec{0, 2, 1, 0, 0, 0, 0, 0, 0, 0, 0, 0, 3}, 26, l[5:]},
		{api.Vec{0, 2, 1, 0, 0, 0, 0, 0, 0, 0, 0, 0, 4}, -74, nil},
	} {
		ask(t, "Fold", counter.Fold(cell(10, l...), c.cut), cell(c.base, c.left...))
		ask(t, "Fold of none", counter.Fold(cell(10), c.cut), cell(10))
	}
}

// P8.2: an amount whose Dot no cut has stays, whatever the cut is.
func TestFoldLeavesOthers(t *testing.T) {
	c := cell(3, am(-1, 1, 1, 1), am(0, 0, 1, 2), am(1, -1, 1, 4), am(1, 0, 1, 8), am(13, 1, 1, 16))
	for _, n := range []int{0, 1, api.MaxSeq, -1, math.MaxInt, math.MinInt} {
		var cut api.Vec
		for p := range cut {
			cut[p] = n
		}
		ask(t, "Fold", counter.Fold(c, cut), c)
	}
}

// P8.2: what Fold leaves is what vec's Has does not tell, of all small histories.
func TestFoldOfAll(t *testing.T) {
	c := smallCell()
	for _, cut := range smallVecs() {
		want := cell(c.Base)
		for _, a := range c.Amounts {
			if vec.Has(cut, a.Mark.Dot) {
				want.Base += a.N
			} else {
				want.Amounts = append(want.Amounts, a)
			}
		}
		ask(t, "Fold", counter.Fold(c, cut), want)
	}
}

// P8.2: a Base may come just to 2^60 and -2^60; one beyond, the cell is as it is.
func TestFoldAtTheEnds(t *testing.T) {
	for _, sign := range []int{1, -1} {
		for _, n := range []int{1, 2, 1000, amountMost} {
			a, rest := am(1, 1, 1, sign*n), am(2, 1, 1, sign*n)
			for _, away := range []int{n, n + 1} {
				base := sign * (baseMost - away)
				ask(t, "within", counter.Fold(cell(base, a, rest), api.Vec{0, 1}), cell(base+sign*n, rest))
			}
			for away := range min(n, 3) {
				c := cell(sign*(baseMost-away), a, rest)
				ask(t, "beyond", counter.Fold(c, api.Vec{0, 1}), c)
				ask(t, "none", counter.Fold(c, api.Vec{0, 0, 0, 1}), c)
			}
		}
	}
}

// P8.2: what counts is where the Base ends, whatever it would have been between.
func TestFoldGoesByItsEnd(t *testing.T) {
	for _, sign := range []int{1, -1} {
		first, second, third := am(1, 1, 1, sign*amountMost), am(1, 2, 1, -sign*amountMost), am(1, 3, 1, -sign)
		c := cell(sign*baseMost, first, second, third)
		ask(t, "beyond", counter.Fold(c, api.Vec{0, 1}), c)
		ask(t, "back", counter.Fold(c, api.Vec{0, 2}), cell(sign*baseMost, third))
		ask(t, "all", counter.Fold(c, api.Vec{0, 3}), cell(sign*baseMost-sign))
		ask(t, "none of them", counter.Fold(c, api.Vec{0, 0, 3}), c)
	}
}

// P8.2: Read is Base and all amounts together, beyond 2^60 too.
func TestRead(t *testing.T) {
	askRead(t, cell(0), 0)
	askRead(t, cell(-7), -7)
	askRead(t, cell(10, several()...), -74)
	askRead(t, cell(0, am(1, 1, 1, amountMost), am(1, 1, 2, amountMost), am(1, 1, 3, 1)), 2*amountMost+1)
	askRead(t, cell(0, am(1, 1, 1, -amountMost), am(1, 1, 2, -amountMost), am(1, 1, 3, -1)), -2*amountMost-1)
	askRead(t, cell(baseMost), baseMost)
	askRead(t, cell(-baseMost), -baseMost)
	askRead(t, cell(baseMost, am(1, 1, 1, 1), am(1, 1, 2, amountMost)), baseMost+1+amountMost)
	askRead(t, cell(-baseMost, am(1, 1, 1, -1), am(1, 1, 2, -amountMost)), -baseMost-1-amountMost)
}

// P8.1, P8.2: what calls make of one that Checks does Check, whatever they are given.
func TestCallsKeepCheck(t *testing.T) {
	seer := tx(1, 2, api.Vec{9, 1, math.MaxInt, -4, 1, 1, 1, 1, 1, 1, 1, 1, 3})
	for _, c := range sound() {
		for _, i := range []int{math.MinInt, -1, 0, 1, 2, 17, math.MaxInt} {
			for _, n := range []int{math.MinInt, -amountMost - 1, -amountMost, 0, amountMost, amountMost + 1, math.MaxInt} {
				askCheck(t, counter.Do(c, seer, i, n), true)
			}
			askCheck(t, counter.Clear(c, seer, i), true)
		}
		askCheck(t, counter.Fold(c, seer.Deps), true)
	}
}

// orders hands each order of a list to visit.
func orders(l []api.Amount, k int, visit func([]api.Amount)) {
	if k == len(l) {
		visit(l)
		return
	}
	for i := k; i < len(l); i++ {
		l[k], l[i] = l[i], l[k]
		orders(l, k+1, visit)
		l[k], l[i] = l[i], l[k]
	}
}

// P8.3: the order of additions is nothing: every order of several amounts of several peers comes to one cell.
func TestEveryOrder(t *testing.T) {
	count := 0
	orders(several(), 0, func(l []api.Amount) {
		c := cell(1)
		for _, a := range l {
			c = do(c, a)
			if !counter.Check(c) {
				t.Fatalf("%+v of %+v", c, l)
			}
		}
		ask(t, "in this order", c, cell(1, several()...))
		askRead(t, c, -83)
		count++
	})
	if count != 720 {
		t.Error(count, "orders")
	}
}

// closedBy answers the cut that has just the transactions of several of which all ops are in l.
func closedBy(l []api.Amount) api.Vec {
	cut := api.Vec{0, 9, 9, 0, 0, 0, 0, 0, 0, 0, 0, 0, 9}
	for _, a := range several() {
		if !slices.Contains(l, a) {
			cut[a.Mark.Dot.Peer] = min(cut[a.Mark.Dot.Peer], a.Mark.Dot.Seq-1)
		}
	}
	return cut
}

// P8.3: wherever one is folded between additions, in every order, by a cut behind which nothing of it is to come, it reads the same.
func TestEveryOrderFolded(t *testing.T) {
	orders(several(), 0, func(l []api.Amount) {
		plain, folded := cell(1), cell(1)
		for i, a := range l {
			plain, folded = do(plain, a), do(folded, a)
			cut := closedBy(l[:i+1])
			folded = counter.Fold(folded, cut)
			askRead(t, folded, counter.Read(plain).N)
			ask(t, "folded at once", counter.Fold(plain, cut), folded)
		}
		ask(t, "folded at the end", folded, cell(-83))
	})
}

// P8.3: folding changes nothing that is read, by any cut, at the ends of what a Base may be too.
func TestFoldReadsTheSame(t *testing.T) {
	cells := append(sound(), smallCell())
	for _, sign := range []int{1, -1} {
		for away := range 8 {
			cells = append(cells, cell(sign*(baseMost-away), several()...))
		}
	}
	for _, c := range cells {
		n := counter.Read(c).N
		for _, cut := range append(smallVecs(), api.Vec{0, 9, 9, 9, 9, 9, 9, 9, 9, 9, 9, 9, 9}, api.Vec{-1, -1, -1}, api.Vec{9, math.MaxInt, math.MinInt}) {
			askRead(t, counter.Fold(c, cut), n)
		}
	}
}

// P8.3: folding twice, by one cut and then a later one, is folding by the later one.
func TestFoldTwice(t *testing.T) {
	c := smallCell()
	for _, a := range smallVecs() {
		for _, b := range smallVecs() {
			ask(t, "folded", counter.Fold(counter.Fold(c, a), b), counter.Fold(c, vec.Join(a, b)))
		}
	}
}

// P8.3: an op that has seen the cut clears the same, whether it was folded by it ahead or not.
func TestClearBehindFold(t *testing.T) {
	c := smallCell()
	for _, cut := range smallVecs() {
		for _, x := range smallTxs() {
			if vec.Leq(cut, x.Deps) {
				ask(t, "cleared", counter.Clear(counter.Fold(c, cut), x, 1), counter.Clear(c, x, 1))
			}
		}
	}
}

// P8.2, P8.3: many calls, one behind another, held against an account that sums what is there.
func TestAccount(t *testing.T) {
	for seed := range int64(40) {
		r := rand.New(rand.NewSource(seed))
		c, base, held := cell(0), 0, map[api.Mark]int{}
		for range 200 {
			x := tx(1+r.Intn(4), 1+r.Intn(4), api.Vec{0, r.Intn(4), r.Intn(4), r.Intn(4), r.Intn(4)})
			i, n := r.Intn(4), r.Intn(21)-10
			switch r.Intn(12) {
			case 0:
				base = 0
				for m := range held {
					if m.Dot == x.Dot && m.Index < i || m.Dot.Seq <= x.Deps[m.Dot.Peer] {
						delete(held, m)
					}
				}
				c = counter.Clear(c, x, i)
			case 1:
				for m := range held {
					if m.Dot.Seq <= x.Deps[m.Dot.Peer] {
						base += held[m]
						delete(held, m)
					}
				}
				c = counter.Fold(c, x.Deps)
			default:
				m := api.Mark{Dot: x.Dot, Index: i}
				if _, there := held[m]; !there && i >= 1 {
					held[m] = n
				}
				c = counter.Do(c, x, i, n)
			}
			hold(t, c, base, held)
		}
	}
}

// hold holds a cell against an account.
func hold(t *testing.T, c api.Cell, base int, held map[api.Mark]int) {
	t.Helper()
	sum := base
	for _, n := range held {
		sum += n
	}
	if !counter.Check(c) || c.Base != base || len(c.Amounts) != len(held) {
		t.Fatalf("%+v, want %d and %v", c, base, held)
	}
	for _, a := range c.Amounts {
		if n, there := held[a.Mark]; !there || n != a.N {
			t.Fatalf("%+v, want %d and %v", c, base, held)
		}
	}
	askRead(t, c, sum)
}

// twin answers a cell that is the same, of new memory, each list with some room behind its end.
func twin(c api.Cell) api.Cell {
	c.Amounts = roomy(c.Amounts)
	c.Writes = roomy(c.Writes)
	c.Members = roomy(c.Members)
	for i, m := range c.Members {
		c.Members[i].Marks = roomy(m.Marks)
	}
	c.Elems = roomy(c.Elems)
	for i, e := range c.Elems {
		c.Elems[i].Gone = roomy(e.Gone)
	}
	return c
}

// roomy answers a list of new memory with room behind its end.
func roomy[T any](l []T) []T {
	return append(make([]T, 0, len(l)+4), l...)
}

// whole answers a cell with all the room behind its lists' ends.
func whole(c api.Cell) api.Cell {
	c = api.Cell{Kind: c.Kind, Base: c.Base, Amounts: c.Amounts[:cap(c.Amounts)], Writes: c.Writes[:cap(c.Writes)], Members: slices.Clone(c.Members[:cap(c.Members)]), Elems: slices.Clone(c.Elems[:cap(c.Elems)])}
	for i, m := range c.Members {
		c.Members[i].Marks = m.Marks[:cap(m.Marks)]
	}
	for i, e := range c.Elems {
		c.Elems[i].Gone = e.Gone[:cap(e.Gone)]
	}
	return c
}

// spoil writes over all that a cell's lists hold, and the room behind their ends.
func spoil(c api.Cell) {
	for i, m := range c.Members[:cap(c.Members)] {
		fill(m.Marks, am(77, 7, 7, 0).Mark)
		c.Members[:cap(c.Members)][i].Text = "spoilt"
	}
	for i, e := range c.Elems[:cap(c.Elems)] {
		fill(e.Gone, am(77, 7, 7, 0).Mark)
		c.Elems[:cap(c.Elems)][i].Text = "spoilt"
	}
	fill(c.Amounts, am(77, 7, 7, 7))
	fill(c.Writes, api.Write{Text: "spoilt"})
}

// fill puts x to each place of a list, and of the room behind its end.
func fill[T any](l []T, x T) {
	l = l[:cap(l)]
	for i := range l {
		l[i] = x
	}
}

// calls are calls of each function that answers a cell.
func calls() []func(api.Cell) api.Cell {
	var l []func(api.Cell) api.Cell
	for _, deps := range []api.Vec{{}, {0, 1}, {0, 2, 1}, {0, 9, 9, 9, 9, 9, 9, 9, 9, 9, 9, 9, 9}} {
		for _, x := range []api.Tx{tx(1, 1, deps), tx(2, 1, deps), tx(4, 1, deps), tx(13, 1, deps), {}} {
			for i := -1; i <= 3; i++ {
				l = append(l, func(c api.Cell) api.Cell { return counter.Clear(c, x, i) })
				for _, n := range []int{3, amountMost + 1} {
					l = append(l, func(c api.Cell) api.Cell { return counter.Do(c, x, i, n) })
				}
			}
		}
		l = append(l, func(c api.Cell) api.Cell { return counter.Fold(c, deps) })
	}
	return l
}

// R3: an argument is as it was behind each call, the room behind its lists' ends too; what is answered shares no memory with it, nor with another answer.
func TestArgumentsAndAnswers(t *testing.T) {
	for _, c := range append(sound(), wrong()...) {
		for _, call := range calls() {
			given := twin(c)
			all := whole(twin(c))
			first := call(given)
			ask(t, "the argument", given, c)
			ask(t, "the room behind", whole(given), all)
			second, want := call(given), twin(first)
			spoil(first)
			ask(t, "the argument behind a spoilt answer", given, c)
			ask(t, "the room behind a spoilt answer's", whole(given), all)
			ask(t, "the other answer", second, want)
			spoil(given)
			ask(t, "the answer behind a spoilt argument", second, want)
		}
	}
}

// R3: Check and Read change nothing; a transaction handed in is as it was.
func TestNothingElseIsChanged(t *testing.T) {
	for _, c := range append(sound(), wrong()...) {
		given := twin(c)
		counter.Check(given)
		counter.Read(given)
		ask(t, "the argument", given, c)
		ask(t, "the room behind", whole(given), whole(twin(c)))
	}
	x := api.Tx{Dot: dot(1, 1), Time: 3, Ops: roomy([]api.Op{{Kind: api.Counter, Key: "a", N: 5}})}
	was := slices.Clone(x.Ops[:cap(x.Ops)])
	counter.Do(cell(0), x, 1, 5)
	counter.Clear(cell(0), x, 1)
	if !slices.Equal(x.Ops[:cap(x.Ops)], was) {
		t.Error("ops", x.Ops)
	}
}

// R1, R7: numbers at the ends of what there is lead to answers, and nothing comes round.
func TestExtremes(t *testing.T) {
	ends := []int{math.MinInt, math.MinInt + 1, -1, 0, 1, math.MaxInt - 1, math.MaxInt}
	for _, c := range append(sound(), wrong()...) {
		for _, p := range ends {
			for _, s := range ends {
				x := tx(p, s, api.Vec{p, s, p, s, p, s, p, s, p, s, p, s, p})
				for _, i := range ends {
					got := counter.Do(c, x, i, 1)
					if counter.Check(got) != counter.Check(c) {
						t.Errorf("Do of %+v at %d: %+v", x, i, got)
					}
					counter.Clear(c, x, i)
				}
				folded := counter.Fold(c, x.Deps)
				if counter.Read(folded).N != counter.Read(c).N {
					t.Errorf("Fold by %v: %+v", x.Deps, folded)
				}
			}
		}
	}
}
