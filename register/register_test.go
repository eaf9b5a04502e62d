package register_test

import (
	"math"
	"math/rand"
	"slices"
	"strings"
	"testing"

	"plexus/api"
	"plexus/ops"
	"plexus/register"
)

// textMost is how many bytes a text has at most, as the document has it.
const textMost = 64

// dot answers a Dot.
func dot(peer int, seq int) api.Dot {
	return api.Dot{Peer: peer, Seq: seq}
}

// mk answers a Mark.
func mk(peer int, seq int, index int) api.Mark {
	return api.Mark{Dot: dot(peer, seq), Index: index}
}

// wr answers a Write.
func wr(peer int, seq int, index int, time int, text string) api.Write {
	return api.Write{Mark: mk(peer, seq, index), Time: time, Text: text}
}

// tx answers a transaction of that name and time that has seen deps.
func tx(peer int, seq int, time int, deps api.Vec) api.Tx {
	return api.Tx{Dot: dot(peer, seq), Time: time, Deps: deps}
}

// cell answers the register of that kind and these writes, in that order.
func cell(kind int, l ...api.Write) api.Cell {
	return api.Cell{Kind: kind, Writes: l}
}

// kinds are the kinds that registers have.
func kinds() []int {
	return []int{2, 3}
}

// do does the op that makes a write, by one that has seen deps.
func do(c api.Cell, w api.Write, deps api.Vec) api.Cell {
	return register.Do(c, tx(w.Mark.Dot.Peer, w.Mark.Dot.Seq, w.Time, deps), w.Mark.Index, w.Text)
}

// blind does the op that makes a write, by one that has seen nothing.
func blind(c api.Cell, w api.Write) api.Cell {
	return do(c, w, api.Vec{})
}

// everything is a vector of all that there may be.
func everything() api.Vec {
	var v api.Vec
	for p := range v {
		v[p] = api.MaxSeq
	}
	v[0] = 0
	return v
}

// several are writes of several peers, rising; of two transactions of one peer, and one that wrote twice.
func several() []api.Write {
	return []api.Write{wr(1, 1, 1, 4, "d"), wr(1, 1, 2, 4, "b"), wr(1, 2, 1, 6, "b"), wr(2, 1, 1, 9, ""), wr(2, 1, 16, -3, "a"), wr(12, 4, 3, 6, "c")}
}

// apart are writes of several peers, rising, no two of one peer: nobody needs to have seen another one.
func apart() []api.Write {
	return []api.Write{wr(1, 3, 2, 5, "x"), wr(2, 1, 1, 8, "b"), wr(3, 7, 1, -2, "a"), wr(5, 1, 1, 8, "x"), wr(9, 2, 4, 0, ""), wr(12, 1, 1, 1, "bb")}
}

// sameMember tells whether two members are the same.
func sameMember(a api.Member, b api.Member) bool {
	return a.Text == b.Text && a.Base == b.Base && slices.Equal(a.Marks, b.Marks)
}

// sameElem tells whether two elements are the same.
func sameElem(a api.Elem, b api.Elem) bool {
	return a.Mark == b.Mark && a.Time == b.Time && a.Ref == b.Ref && a.Text == b.Text && slices.Equal(a.Gone, b.Gone)
}

// same tells whether two cells are the same; nil and empty lists are.
func same(a api.Cell, b api.Cell) bool {
	return a.Kind == b.Kind && a.Base == b.Base && slices.Equal(a.Amounts, b.Amounts) && slices.Equal(a.Writes, b.Writes) &&
		slices.EqualFunc(a.Members, b.Members, sameMember) && slices.EqualFunc(a.Elems, b.Elems, sameElem)
}

// isRead tells whether a value is that kind's, of these texts.
func isRead(v api.Value, kind int, texts []string) bool {
	return v.Kind == kind && v.N == 0 && slices.Equal(v.Texts, texts) && len(v.Fields) == 0
}

// ask holds an answer against the cell that is wanted.
func ask(t *testing.T, what string, got api.Cell, want api.Cell) {
	t.Helper()
	if !same(got, want) {
		t.Errorf("%s: %+v, want %+v", what, got, want)
	}
}

// askRead holds what is read of a cell against the texts that are wanted.
func askRead(t *testing.T, c api.Cell, texts ...string) {
	t.Helper()
	if got := register.Read(c); !isRead(got, c.Kind, texts) {
		t.Errorf("Read(%+v) = %+v, want %q", c, got, texts)
	}
}

// askCheck asks Check.
func askCheck(t *testing.T, c api.Cell, want bool) {
	t.Helper()
	if got := register.Check(c); got != want {
		t.Errorf("Check(%+v) = %v, want %v", c, got, want)
	}
}

// others are the lists of other kinds' cells, one at a time and all at once.
func others() []api.Cell {
	m := mk(1, 1, 1)
	l := []api.Cell{
		{Amounts: []api.Amount{{}}},
		{Amounts: []api.Amount{{Mark: m, N: 3}, {Mark: m}}},
		{Members: []api.Member{{}}},
		{Members: []api.Member{{Text: "x", Base: true}, {Text: "y", Marks: []api.Mark{m, m}}}},
		{Elems: []api.Elem{{}}},
		{Elems: []api.Elem{{Mark: m, Time: 2, Ref: m, Text: "x", Gone: []api.Mark{m}}, {Gone: []api.Mark{m, m}}}},
	}
	all := api.Cell{}
	for _, c := range l {
		all.Amounts, all.Members, all.Elems = append(all.Amounts, c.Amounts...), append(all.Members, c.Members...), append(all.Elems, c.Elems...)
	}
	return append(l, all)
}

// wrongWrites are lists of writes that no register has: out of order, with one Mark twice, of a Text or an Index that may not be, at every place of a list.
func wrongWrites() [][]api.Write {
	l := [][]api.Write{
		{wr(2, 1, 1, 1, "a"), wr(1, 1, 1, 1, "b")}, {wr(1, 2, 1, 1, "a"), wr(1, 1, 1, 1, "b")}, {wr(1, 1, 2, 1, "a"), wr(1, 1, 1, 1, "b")},
		{wr(2, 1, 1, 1, "a"), wr(1, 2, 2, 9, "b")}, {wr(1, 2, 1, 1, "a"), wr(1, 1, 2, 9, "b")},
		{wr(1, 1, 1, 1, "a"), wr(1, 1, 1, 1, "a")}, {wr(1, 1, 1, 1, "a"), wr(1, 1, 1, 1, "b")}, {wr(1, 1, 1, 1, "a"), wr(1, 1, 1, 2, "a")},
	}
	for i := range several() {
		for _, n := range []int{textMost + 1, textMost + 2, 1000} {
			x := several()
			x[i].Text = strings.Repeat("x", n)
			l = append(l, x, x[i:i+1])
		}
		for _, index := range []int{0, -1, math.MinInt} {
			x := several()
			x[i].Mark.Index = index
			l = append(l, x, x[i:i+1])
		}
		x := several()
		l = append(l, slices.Insert(several(), i, x[i]))
		if i > 0 {
			x[i-1], x[i] = x[i], x[i-1]
			l = append(l, x)
		}
	}
	return l
}

// wrong are cells that do not Check.
func wrong() []api.Cell {
	l := []api.Cell{{}, {Base: 5}, {Writes: several()}}
	for _, kind := range []int{math.MinInt, -1, 0, api.Counter, api.Set, api.Seq, api.Map, api.Roster, 8, math.MaxInt} {
		l = append(l, cell(kind, several()...), cell(kind))
	}
	for _, kind := range kinds() {
		for _, base := range []int{-1, 1, math.MinInt, math.MaxInt} {
			l = append(l, api.Cell{Kind: kind, Base: base}, api.Cell{Kind: kind, Base: base, Writes: several()})
		}
		for _, w := range wrongWrites() {
			l = append(l, cell(kind, w...))
		}
		for _, c := range others() {
			l = append(l, c)
			c.Kind = kind
			l = append(l, c)
			c.Writes = several()
			l = append(l, c)
		}
	}
	return l
}

// sound are cells that Check.
func sound() []api.Cell {
	var l []api.Cell
	for _, kind := range kinds() {
		l = append(l, cell(kind), cell(kind, wr(1, 1, 1, 1, "a")), cell(kind, wr(12, api.MaxSeq, api.MaxOps, api.MaxTime, strings.Repeat("z", textMost))),
			cell(kind, several()...), cell(kind, several()[:3]...), cell(kind, apart()...))
	}
	return l
}

// P9.1 to P9.3: the chapter's example, in either order, of either time.
func TestExample(t *testing.T) {
	for _, times := range [][2]int{{1, 2}, {2, 1}} {
		a, b := wr(1, 1, 1, times[0], "a"), wr(2, 1, 1, times[1], "b")
		for _, kind := range kinds() {
			c := blind(blind(cell(kind), a), b)
			ask(t, "a, b", c, cell(kind, a, b))
			ask(t, "b, a", blind(blind(cell(kind), b), a), cell(kind, a, b))
			switch {
			case kind == api.Many:
				askRead(t, c, "a", "b")
			case a.Time > b.Time:
				askRead(t, c, "a")
			default:
				askRead(t, c, "b")
			}
			seen := do(c, wr(3, 1, 1, 3, "c"), api.Vec{0, 1, 1})
			ask(t, "one that has seen both", seen, cell(kind, wr(3, 1, 1, 3, "c")))
			askRead(t, seen, "c")
		}
	}
}

// P9.1: what may be: no write, one, several; empty lists are as nil ones.
func TestCheckOfSound(t *testing.T) {
	for _, c := range sound() {
		askCheck(t, c, true)
		c.Amounts, c.Members, c.Elems = []api.Amount{}, []api.Member{}, []api.Elem{}
		askCheck(t, c, true)
		c.Amounts, c.Members, c.Elems = make([]api.Amount, 0, 3), make([]api.Member, 0, 3), make([]api.Elem, 0, 3)
		askCheck(t, c, true)
	}
	for _, kind := range kinds() {
		askCheck(t, api.Cell{Kind: kind, Writes: []api.Write{}}, true)
	}
}

// P9.1: what may not: other kinds, a base, other lists, writes beyond what is allowed, writes that do not rise.
func TestCheckOfWrong(t *testing.T) {
	for _, c := range wrong() {
		askCheck(t, c, false)
	}
}

// P9.1: each kind, at the ends and beyond: Last and Many alone are registers.
func TestCheckKind(t *testing.T) {
	for kind := -2; kind <= 9; kind++ {
		askCheck(t, cell(kind), kind == 2 || kind == 3)
		askCheck(t, cell(kind, several()...), kind == 2 || kind == 3)
	}
}

// P9.1: Base is 0.
func TestCheckBase(t *testing.T) {
	for _, kind := range kinds() {
		for _, base := range []int{math.MinInt, -1, 0, 1, math.MaxInt} {
			askCheck(t, api.Cell{Kind: kind, Base: base}, base == 0)
			askCheck(t, api.Cell{Kind: kind, Base: base, Writes: several()}, base == 0)
		}
	}
}

// P9.1: a Text has up to MaxText bytes, whatever they are, at each place of a list.
func TestCheckText(t *testing.T) {
	wide := strings.Repeat("ä", textMost/2)
	for _, kind := range kinds() {
		for i := range several() {
			for _, s := range []string{"", "x", "\x00", "\xff", strings.Repeat("x", 63), strings.Repeat("\xfe", 64), wide} {
				l := several()
				l[i].Text = s
				askCheck(t, cell(kind, l...), true)
			}
			for _, s := range []string{strings.Repeat("x", 65), strings.Repeat("\x00", 65), wide + "x", strings.Repeat("ä", 33), strings.Repeat("x", 1000)} {
				l := several()
				l[i].Text = s
				askCheck(t, cell(kind, l...), false)
			}
		}
	}
}

// P9.1: an Index goes from 1 on, at each place of a list.
func TestCheckIndex(t *testing.T) {
	for _, kind := range kinds() {
		for _, index := range []int{math.MinInt, -1, 0, 1, 2, api.MaxOps, api.MaxOps + 1, math.MaxInt} {
			w := wr(1, 1, index, 1, "a")
			askCheck(t, cell(kind, w), index >= 1)
			askCheck(t, cell(kind, w, wr(1, 2, 1, 1, "a")), index >= 1)
			askCheck(t, cell(kind, wr(1, 0, 1, 1, "a"), w), index >= 1)
		}
	}
}

// P9.1: nothing is asked of a Dot, but that marks rise, nor of a Time: the zero Dot is an open transaction's.
func TestCheckAnyDotAndTime(t *testing.T) {
	for _, kind := range kinds() {
		askCheck(t, cell(kind, wr(0, 0, 1, 1, "a")), true)
		askCheck(t, cell(kind, wr(0, 0, 1, 1, "a"), wr(1, 1, 1, 1, "a")), true)
		askCheck(t, cell(kind, wr(math.MinInt, math.MaxInt, 1, 1, "a"), wr(-1, 3, 1, 1, "a"), wr(13, math.MinInt, 2, 1, "a"), wr(13, -1, 1, 1, "a"), wr(math.MaxInt, 0, 1, 1, "a")), true)
		for _, time := range []int{math.MinInt, -1, 0, 1, api.MaxTime, api.MaxTime + 1, math.MaxInt} {
			askCheck(t, cell(kind, wr(1, 1, 1, time, "a"), wr(2, 1, 1, -time, "a")), true)
		}
	}
}

// P9.1: writes rise: of all lists of up to three of eight marks, just those that do Check.
func TestCheckRising(t *testing.T) {
	w := smallCell(api.Last).Writes[:8]
	for a := range w {
		for b := range w {
			askCheck(t, cell(api.Many, w[a], w[b]), a < b)
			for c := range w {
				askCheck(t, cell(api.Last, w[a], w[b], w[c]), a < b && b < c)
			}
		}
	}
}

// P9.1: calls of one that does not Check answer it as it is, Read the zero Value.
func TestCallsOfWrong(t *testing.T) {
	for _, c := range wrong() {
		for _, x := range []api.Tx{tx(3, 9, 5, everything()), tx(3, 9, 5, api.Vec{}), tx(1, 1, 5, api.Vec{}), {}} {
			for i := -1; i <= 2; i++ {
				ask(t, "Do", register.Do(c, x, i, "n"), c)
				ask(t, "Clear", register.Clear(c, x, i), c)
			}
			ask(t, "Do beyond", register.Do(c, x, 1, strings.Repeat("x", 65)), c)
		}
		if got := register.Read(c); !isRead(got, 0, nil) {
			t.Errorf("Read(%+v) = %+v", c, got)
		}
	}
}

// P9.2: Do puts a write where its mark belongs: to the front, the middle, the end, or where there is none.
func TestDoPlaces(t *testing.T) {
	for _, kind := range kinds() {
		ask(t, "none", blind(cell(kind), wr(3, 1, 1, 9, "n")), cell(kind, wr(3, 1, 1, 9, "n")))
		for i, w := range apart() {
			rest := slices.Delete(apart(), i, i+1)
			ask(t, "one more", blind(cell(kind, rest...), w), cell(kind, apart()...))
		}
		l := several()
		for at, w := range map[int]api.Write{0: wr(-1, 3, 1, 8, "n"), 3: wr(1, 3, 1, 8, "n"), 5: wr(5, 1, 1, 8, "n"), 6: wr(13, 1, 1, 8, "n")} {
			ask(t, "among several", blind(cell(kind, l...), w), cell(kind, slices.Insert(several(), at, w)...))
		}
	}
}

// P9.2: a Write has t's Dot, the place i, t's Time and s, whatever t's ops are.
func TestDoWritesWhatItIsGiven(t *testing.T) {
	x := api.Tx{Dot: dot(5, 2), Time: -3, Ops: []api.Op{{Kind: api.Set, Text: "other", N: 44}, {Text: "another"}}}
	for _, kind := range kinds() {
		ask(t, "Do", register.Do(cell(kind), x, 7, "n"), cell(kind, wr(5, 2, 7, -3, "n")))
		ask(t, "Do of a zero tx", register.Do(cell(kind), api.Tx{}, 2, "n"), cell(kind, wr(0, 0, 2, 0, "n")))
		for _, time := range []int{math.MinInt, -1, 0, 1, api.MaxTime, math.MaxInt} {
			ask(t, "Do at a time", blind(cell(kind), wr(1, 1, 1, time, "n")), cell(kind, wr(1, 1, 1, time, "n")))
		}
	}
}

// P9.2: a Do of a mark that is there answers what is there, with the same text and with another one, at any time, whatever it has seen.
func TestDoAgain(t *testing.T) {
	for _, kind := range kinds() {
		for _, l := range [][]api.Write{several(), apart()} {
			c := cell(kind, l...)
			for _, w := range l {
				for _, deps := range []api.Vec{{}, {0, 1}, {0, 0, 1}, {0, 2, 1}, everything()} {
					for _, s := range []string{w.Text, "other", "", strings.Repeat("x", 64), strings.Repeat("x", 65)} {
						for _, time := range []int{w.Time, w.Time + 1, -100, 100} {
							again := api.Write{Mark: w.Mark, Time: time, Text: s}
							ask(t, "again", do(c, again, deps), c)
						}
					}
				}
			}
		}
		one := blind(cell(kind), wr(1, 1, 1, 1, "a"))
		ask(t, "twice", blind(one, wr(1, 1, 1, 1, "a")), one)
		ask(t, "with another text", blind(one, wr(1, 1, 1, 1, "b")), one)
	}
}

// P9.2: the second op of a transaction, done again, does not take away what came between, nor the first one's.
func TestDoAgainTakesNothing(t *testing.T) {
	for _, kind := range kinds() {
		c := cell(kind, wr(1, 1, 1, 1, "a"), wr(1, 1, 2, 1, "b"), wr(2, 1, 1, 1, "c"))
		ask(t, "again", do(c, wr(1, 1, 2, 1, "b"), api.Vec{0, 0, 1}), c)
		ask(t, "for the first time", do(c, wr(1, 1, 3, 1, "d"), api.Vec{0, 0, 1}), cell(kind, wr(1, 1, 3, 1, "d")))
	}
}

// P9.2: s has up to MaxText bytes; one beyond it is as it is, and nothing is cleared.
func TestDoTexts(t *testing.T) {
	wide := strings.Repeat("ä", textMost/2)
	for _, c := range sound() {
		for _, s := range []string{"", "x", "\x00\xff", strings.Repeat("x", 63), strings.Repeat("x", 64), wide} {
			ask(t, "within", do(c, wr(4, 1, 1, 2, s), everything()), cell(c.Kind, wr(4, 1, 1, 2, s)))
		}
		for _, s := range []string{strings.Repeat("x", 65), wide + "x", strings.Repeat("x", 1000)} {
			ask(t, "beyond", do(c, wr(4, 1, 1, 2, s), everything()), c)
			ask(t, "beyond", blind(c, wr(4, 1, 1, 2, s)), c)
		}
	}
}

// P9.2: i goes from 1 on; below that it is as it is, and nothing is cleared.
func TestDoIndex(t *testing.T) {
	for _, c := range sound() {
		for _, i := range []int{1, 2, api.MaxOps, api.MaxOps + 1, math.MaxInt} {
			ask(t, "from 1 on", do(c, wr(4, 1, i, 5, "n"), everything()), cell(c.Kind, wr(4, 1, i, 5, "n")))
		}
		for _, i := range []int{0, -1, math.MinInt} {
			ask(t, "below", do(c, wr(4, 1, i, 5, "n"), everything()), c)
			ask(t, "below", blind(c, wr(4, 1, i, 5, "n")), c)
		}
	}
}

// cleared are what ops that have seen none, some, all leave of several.
func cleared() []struct {
	deps api.Vec
	left []api.Write
} {
	l := several()
	return []struct {
		deps api.Vec
		left []api.Write
	}{
		{api.Vec{}, l},
		{api.Vec{9, 0, 0, 9}, l},
		{api.Vec{0, 1}, l[2:]},
		{api.Vec{0, 2}, l[3:]},
		{api.Vec{0, 9}, l[3:]},
		{api.Vec{0, 0, 1}, []api.Write{l[0], l[1], l[2], l[5]}},
		{api.Vec{0, 1, 1}, []api.Write{l[2], l[5]}},
		{api.Vec{0, 2, 1, 0, 0, 0, 0, 0, 0, 0, 0, 0, 3}, l[5:]},
		{api.Vec{0, 0, 0, 0, 0, 0, 0, 0, 0, 0, 0, 0, 4}, l[:5]},
		{api.Vec{0, 2, 1, 0, 0, 0, 0, 0, 0, 0, 0, 0, 4}, nil},
	}
}

// P9.2: Clear of an op that has seen none, some, all.
func TestClear(t *testing.T) {
	for _, kind := range kinds() {
		for _, c := range cleared() {
			x := tx(5, 1, 1, c.deps)
			ask(t, "Clear", register.Clear(cell(kind, several()...), x, 1), cell(kind, c.left...))
			ask(t, "Clear of none", register.Clear(cell(kind), x, 1), cell(kind))
		}
	}
}

// P9.2: Do of an op that has seen none, some, all: what Clear leaves, and its own, where that belongs.
func TestDoClears(t *testing.T) {
	for _, kind := range kinds() {
		for _, c := range cleared() {
			for _, w := range []api.Write{wr(0, 0, 1, 1, "n"), wr(1, 3, 1, 1, "n"), wr(5, 1, 1, -9, "n"), wr(12, 4, 4, 9, "n"), wr(12, 5, 1, 9, "n"), wr(13, 1, 1, 9, "n")} {
				x := tx(w.Mark.Dot.Peer, w.Mark.Dot.Seq, w.Time, c.deps)
				want := register.Clear(cell(kind, several()...), x, w.Mark.Index)
				want.Writes = append(want.Writes, w)
				slices.SortFunc(want.Writes, byMark)
				ask(t, "Do", do(cell(kind, several()...), w, c.deps), want)
			}
		}
	}
}

// byMark compares writes by their marks.
func byMark(a api.Write, b api.Write) int {
	switch {
	case ops.Less(a.Mark, b.Mark):
		return -1
	case ops.Less(b.Mark, a.Mark):
		return 1
	}
	return 0
}

// P9.2: an op has seen those ahead of it in its own transaction, and neither itself nor those behind.
func TestClearOwn(t *testing.T) {
	l := []api.Write{wr(1, 1, 1, 1, "a"), wr(2, 3, 1, 2, "b"), wr(2, 3, 2, 2, "c"), wr(2, 3, 3, 2, "d"), wr(2, 4, 1, 3, "e")}
	none := tx(2, 3, 2, api.Vec{})
	for _, kind := range kinds() {
		c := cell(kind, l...)
		for i, want := range [][]api.Write{l, l, {l[0], l[2], l[3], l[4]}, {l[0], l[3], l[4]}, {l[0], l[4]}, {l[0], l[4]}} {
			ask(t, "Clear", register.Clear(c, none, i), cell(kind, want...))
		}
		ask(t, "below", register.Clear(c, none, math.MinInt), c)
		ask(t, "above", register.Clear(c, none, math.MaxInt), cell(kind, l[0], l[4]))
		ask(t, "both", register.Clear(c, tx(2, 3, 2, api.Vec{0, 1, 2}), 2), cell(kind, l[2:]...))
		ask(t, "below 1, of others'", register.Clear(c, tx(2, 3, 2, api.Vec{0, 1}), 0), cell(kind, l[1:]...))
		open := cell(kind, wr(0, 0, 1, 1, "a"), wr(0, 0, 2, 1, "b"))
		ask(t, "an open one's", register.Clear(open, api.Tx{}, 2), cell(kind, wr(0, 0, 2, 1, "b")))
		ask(t, "Do of an open one's", register.Do(open, api.Tx{Time: 1}, 3, "c"), cell(kind, wr(0, 0, 3, 1, "c")))
	}
}

// smallCell has a write of every mark of three peers, up to two transactions and two ops of each.
func smallCell(kind int) api.Cell {
	c := cell(kind)
	for k := range 12 {
		c.Writes = append(c.Writes, wr(1+k>>2, 1+k>>1&1, 1+k&1, k*5%7, string(rune('a'+k*5%12))))
	}
	return c
}

// smallTxs are transactions of three peers that have seen each vector of these with 0 to 2 of each.
func smallTxs() []api.Tx {
	var l []api.Tx
	for v := range 27 {
		for k := range 9 {
			l = append(l, tx(1+k%3, 1+k/3, v%5-2, api.Vec{0, v % 3, v / 3 % 3, v / 9}))
		}
	}
	return l
}

// P9.2: what Clear leaves is what ops' Before does not tell, and Do adds to that, of all small histories.
func TestOfAllSmall(t *testing.T) {
	for _, kind := range kinds() {
		c := smallCell(kind)
		for _, x := range smallTxs() {
			for i := -1; i <= 4; i++ {
				want := cell(kind)
				for _, w := range c.Writes {
					if !ops.Before(w.Mark, x, i) {
						want.Writes = append(want.Writes, w)
					}
				}
				ask(t, "Clear", register.Clear(c, x, i), want)
				m := api.Mark{Dot: x.Dot, Index: i}
				if i < 1 || slices.ContainsFunc(c.Writes, func(w api.Write) bool { return w.Mark == m }) {
					ask(t, "Do of what is there", register.Do(c, x, i, "new"), c)
					continue
				}
				want.Writes = append(want.Writes, api.Write{Mark: m, Time: x.Time, Text: "new"})
				slices.SortFunc(want.Writes, byMark)
				ask(t, "Do", register.Do(c, x, i, "new"), want)
			}
		}
	}
}

// P9.2: Last reads the write of the greatest time; of one time that of the greatest mark, by its peer first, then Seq, then Index.
func TestReadLast(t *testing.T) {
	askRead(t, cell(api.Last))
	askRead(t, cell(api.Last, wr(1, 1, 1, 1, "a")), "a")
	askRead(t, cell(api.Last, wr(1, 1, 1, 1, "")), "")
	askRead(t, cell(api.Last, several()...), "")
	askRead(t, cell(api.Last, several()[:3]...), "b")
	askRead(t, cell(api.Last, apart()...), "x")
	askRead(t, cell(api.Last, wr(1, 1, 1, 7, "z"), wr(2, 1, 1, 7, "a")), "a")
	askRead(t, cell(api.Last, wr(1, 9, 9, 7, "z"), wr(2, 1, 1, 7, "a")), "a")
	askRead(t, cell(api.Last, wr(1, 1, 9, 7, "z"), wr(1, 2, 1, 7, "a")), "a")
	askRead(t, cell(api.Last, wr(1, 1, 1, 7, "z"), wr(1, 1, 2, 7, "a")), "a")
	askRead(t, cell(api.Last, wr(1, 1, 1, 8, "a"), wr(2, 1, 1, 7, "z")), "a")
}

// P9.2: Times below 0 and at the ends of what there is are held against each other as numbers.
func TestReadLastTimes(t *testing.T) {
	times := []int{math.MinInt, math.MinInt + 1, -2, -1, 0, 1, api.MaxTime, math.MaxInt - 1, math.MaxInt}
	for i, a := range times {
		for j, b := range times {
			want := "second"
			if i > j {
				want = "first"
			}
			askRead(t, cell(api.Last, wr(1, 1, 1, a, "first"), wr(2, 1, 1, b, "second")), want)
		}
	}
}

// P9.2: of all lists of four writes of three times, Last reads as the document says, Many all of them.
func TestReadOfAllTimes(t *testing.T) {
	for k := range 81 {
		l := []api.Write{wr(1, 1, 1, k%3-1, "c"), wr(1, 1, 2, k/3%3-1, "a"), wr(1, 2, 1, k/9%3-1, "d"), wr(2, 1, 1, k/27-1, "b")}
		askRead(t, cell(api.Last, l...), lastOf(l))
		askRead(t, cell(api.Many, l...), "a", "b", "c", "d")
	}
}

// lastOf answers the text of the write that no other one of a list is behind, by time and then mark.
func lastOf(l []api.Write) string {
	for _, w := range l {
		behind := func(o api.Write) bool {
			return o.Time > w.Time || o.Time == w.Time && ops.Less(w.Mark, o.Mark)
		}
		if !slices.ContainsFunc(l, behind) {
			return w.Text
		}
	}
	return ""
}

// P9.2: Many reads the texts of all writes, rising by their bytes, each once.
func TestReadMany(t *testing.T) {
	askRead(t, cell(api.Many))
	askRead(t, cell(api.Many, wr(1, 1, 1, 1, "a")), "a")
	askRead(t, cell(api.Many, wr(1, 1, 1, 1, "")), "")
	askRead(t, cell(api.Many, several()...), "", "a", "b", "c", "d")
	askRead(t, cell(api.Many, apart()...), "", "a", "b", "bb", "x")
	askRead(t, cell(api.Many, wr(1, 1, 1, 1, "a"), wr(2, 1, 1, 9, "a"), wr(3, 1, 1, 4, "a")), "a")
	askRead(t, cell(api.Many, wr(1, 1, 1, 1, ""), wr(2, 1, 1, 9, "")), "")
	askRead(t, cell(api.Many, wr(1, 1, 1, 1, "b"), wr(2, 1, 1, 1, "a"), wr(3, 1, 1, 1, "b"), wr(4, 1, 1, 1, "a")), "a", "b")
	askRead(t, cell(api.Many, wr(1, 1, 1, 1, "abc"), wr(2, 1, 1, 1, "ab"), wr(3, 1, 1, 1, "b"), wr(4, 1, 1, 1, "a"), wr(5, 1, 1, 1, "")), "", "a", "ab", "abc", "b")
	askRead(t, cell(api.Many, wr(1, 1, 1, 1, "\xff"), wr(2, 1, 1, 1, "ä"), wr(3, 1, 1, 1, "z"), wr(4, 1, 1, 1, "\x80"), wr(5, 1, 1, 1, "\x7f"), wr(6, 1, 1, 1, "Z"), wr(7, 1, 1, 1, "a\x00"), wr(8, 1, 1, 1, "a")),
		"Z", "a", "a\x00", "z", "\x7f", "\x80", "ä", "\xff")
	long := strings.Repeat("x", 63)
	askRead(t, cell(api.Many, wr(1, 1, 1, 1, long+"z"), wr(2, 1, 1, 1, long+"y"), wr(3, 1, 1, 1, long)), long, long+"y", long+"z")
}

// P9.1, P9.2: what calls make of one that Checks does Check, and is of its kind, whatever they are given.
func TestCallsKeepCheck(t *testing.T) {
	seer := tx(1, 2, -8, api.Vec{9, 1, math.MaxInt, -4, 1, 1, 1, 1, 1, 1, 1, 1, 3})
	for _, c := range sound() {
		for _, i := range []int{math.MinInt, -1, 0, 1, 2, 17, math.MaxInt} {
			for _, s := range []string{"", "a", strings.Repeat("x", 64), strings.Repeat("x", 65)} {
				askKept(t, register.Do(c, seer, i, s), c.Kind)
			}
			askKept(t, register.Clear(c, seer, i), c.Kind)
		}
	}
}

// askKept asks whether a cell Checks, and is of that kind.
func askKept(t *testing.T, c api.Cell, kind int) {
	t.Helper()
	if !register.Check(c) || c.Kind != kind {
		t.Errorf("%+v is no register of kind %d", c, kind)
	}
}

// orders hands each order of a list, from its place k on, to visit.
func orders[T any](l []T, k int, visit func([]T)) {
	if k == len(l) {
		visit(l)
		return
	}
	for i := k; i < len(l); i++ {
		l[k], l[i] = l[i], l[k]
		orders(l, k+1, visit)
		l[k], l[i] = l[i], l[k]
	}
}

// P9.3: the order of writes that have not seen each other is nothing: every order of several writes of several peers comes to one cell, of either kind.
func TestEveryOrder(t *testing.T) {
	count := 0
	for _, kind := range kinds() {
		orders(apart(), 0, func(l []api.Write) {
			c := cell(kind)
			for _, w := range l {
				c = blind(c, w)
			}
			ask(t, "in this order", c, cell(kind, apart()...))
			count++
		})
	}
	if count != 1440 {
		t.Error(count, "orders")
	}
	askRead(t, cell(api.Last, apart()...), "x")
	askRead(t, cell(api.Many, apart()...), "", "a", "b", "bb", "x")
}

// put is one op of a history: the transaction that it is of, its place, and what it writes, or that it clears.
type put struct {
	tx     api.Tx
	index  int
	text   string
	clears bool
}

// done does a put.
func (p put) done(c api.Cell) api.Cell {
	if p.clears {
		return register.Clear(c, p.tx, p.index)
	}
	return register.Do(c, p.tx, p.index, p.text)
}

// mark answers a put's Mark.
func (p put) mark() api.Mark {
	return api.Mark{Dot: p.tx.Dot, Index: p.index}
}

// history answers puts of three peers, some of which clear: each is of a transaction that has seen all that its peer had, and what those had seen.
func history(r *rand.Rand, n int) []put {
	var l []put
	var has [4]api.Vec
	for range n {
		p := 1 + r.Intn(3)
		for q := range has {
			if r.Intn(3) == 0 {
				for k := range has[p] {
					has[p][k] = max(has[p][k], has[q][k])
				}
			}
		}
		x := tx(p, has[p][p]+1, r.Intn(3), has[p])
		for i := range 1 + r.Intn(2) {
			l = append(l, put{x, i + 1, string(rune('a' + r.Intn(5))), r.Intn(6) == 0})
		}
		has[p][p]++
	}
	return l
}

// ready tells whether all that a put has seen, of a history, is among those that were done.
func ready(p put, all []put, done []put) bool {
	for _, q := range all {
		is := func(d put) bool { return d.mark() == q.mark() }
		if ops.Before(q.mark(), p.tx, p.index) && !slices.ContainsFunc(done, is) {
			return false
		}
	}
	return true
}

// current answers, of puts that were done, the writes that no other write and no clear of them has seen, rising: the definition.
func current(kind int, done []put) api.Cell {
	c := cell(kind)
	for _, p := range done {
		sees := func(q put) bool { return ops.Before(p.mark(), q.tx, q.index) }
		if !p.clears && !slices.ContainsFunc(done, sees) {
			c.Writes = append(c.Writes, api.Write{Mark: p.mark(), Time: p.tx.Time, Text: p.text})
		}
	}
	slices.SortFunc(c.Writes, byMark)
	return c
}

// P9.3: of many histories, done in many orders, each op behind all that it has seen: what is there, and read, was written, and no other write, and no clear, has seen it; done again, nothing changes.
func TestHistories(t *testing.T) {
	for seed := range int64(150) {
		r := rand.New(rand.NewSource(seed))
		all := history(r, 2+r.Intn(8))
		kind := kinds()[seed%2]
		for range 8 {
			c, left, done := cell(kind), slices.Clone(all), []put{}
			for len(left) > 0 {
				k := r.Intn(len(left))
				if !ready(left[k], all, done) {
					continue
				}
				p := left[k]
				done, left = append(done, p), slices.Delete(left, k, k+1)
				c = p.done(c)
				want := current(kind, done)
				ask(t, "so far", c, want)
				askRead(t, c, readOf(want)...)
			}
			for _, w := range c.Writes {
				ask(t, "again", do(c, w, everything()), c)
			}
		}
	}
}

// readOf answers what the document asks to be read of a cell.
func readOf(c api.Cell) []string {
	if c.Kind == api.Last && len(c.Writes) > 0 {
		return []string{lastOf(c.Writes)}
	}
	var l []string
	for _, w := range c.Writes {
		if !slices.Contains(l, w.Text) {
			l = append(l, w.Text)
		}
	}
	slices.Sort(l)
	return l
}

// P9.3: clears come among writes: what is left is what neither a later write nor a clear has seen.
func TestClearsAmongWrites(t *testing.T) {
	for _, kind := range kinds() {
		c := cell(kind)
		for _, w := range apart() {
			c = blind(c, w)
		}
		c = register.Clear(c, tx(4, 1, 9, api.Vec{0, 3, 1}), 1)
		ask(t, "cleared", c, cell(kind, apart()[2:]...))
		c = do(c, wr(4, 2, 1, 9, "n"), api.Vec{0, 3, 1, 7, 1})
		ask(t, "written", c, cell(kind, wr(4, 2, 1, 9, "n"), apart()[3], apart()[4], apart()[5]))
	}
}

// twin answers a cell that is the same, of new memory, each list with some room behind its end.
func twin(c api.Cell) api.Cell {
	c.Amounts = roomy(c.Amounts)
	c.Writes = roomy(c.Writes)
	c.Members = roomy(c.Members)
	for i, m := range c.Members {
		c.Members[i].Marks = roomy(m.Marks)
	}
	c.Elems = roomy(c.Elems)
	for i, e := range c.Elems {
		c.Elems[i].Gone = roomy(e.Gone)
	}
	return c
}

// roomy answers a list of new memory with room behind its end.
func roomy[T any](l []T) []T {
	return append(make([]T, 0, len(l)+4), l...)
}

// whole answers a cell with all the room behind its lists' ends.
func whole(c api.Cell) api.Cell {
	c = api.Cell{Kind: c.Kind, Base: c.Base, Amounts: c.Amounts[:cap(c.Amounts)], Writes: c.Writes[:cap(c.Writes)], Members: slices.Clone(c.Members[:cap(c.Members)]), Elems: slices.Clone(c.Elems[:cap(c.Elems)])}
	for i, m := range c.Members {
		c.Members[i].Marks = m.Marks[:cap(m.Marks)]
	}
	for i, e := range c.Elems {
		c.Elems[i].Gone = e.Gone[:cap(e.Gone)]
	}
	return c
}

// spoil writes over all that a cell's lists hold, and the room behind their ends.
func spoil(c api.Cell) {
	for i, m := range c.Members[:cap(c.Members)] {
		fill(m.Marks, mk(77, 7, 7))
		c.Members[:cap(c.Members)][i].Text = "spoilt"
	}
	for i, e := range c.Elems[:cap(c.Elems)] {
		fill(e.Gone, mk(77, 7, 7))
		c.Elems[:cap(c.Elems)][i].Text = "spoilt"
	}
	fill(c.Amounts, api.Amount{N: 77})
	fill(c.Writes, wr(77, 7, 7, 7, "spoilt"))
}

// fill puts x to each place of a list, and of the room behind its end.
func fill[T any](l []T, x T) {
	l = l[:cap(l)]
	for i := range l {
		l[i] = x
	}
}

// calls are calls of each function that answers a cell.
func calls() []func(api.Cell) api.Cell {
	var l []func(api.Cell) api.Cell
	for _, deps := range []api.Vec{{}, {0, 1}, {0, 2, 1}, everything()} {
		for _, x := range []api.Tx{tx(1, 1, 3, deps), tx(2, 1, 9, deps), tx(4, 1, -1, deps), tx(13, 1, 5, deps), {}} {
			for i := -1; i <= 3; i++ {
				l = append(l, func(c api.Cell) api.Cell { return register.Clear(c, x, i) })
				for _, s := range []string{"n", strings.Repeat("x", 65)} {
					l = append(l, func(c api.Cell) api.Cell { return register.Do(c, x, i, s) })
				}
			}
		}
	}
	return l
}

// R3: an argument is as it was behind each call, the room behind its lists' ends too; what is answered shares no memory with it, nor with another answer.
func TestArgumentsAndAnswers(t *testing.T) {
	for _, c := range append(sound(), wrong()...) {
		for _, call := range calls() {
			given := twin(c)
			all := whole(twin(c))
			first := call(given)
			ask(t, "the argument", given, c)
			ask(t, "the room behind", whole(given), all)
			second, want := call(given), twin(first)
			spoil(first)
			ask(t, "the argument behind a spoilt answer", given, c)
			ask(t, "the room behind a spoilt answer's", whole(given), all)
			ask(t, "the other answer", second, want)
			spoil(given)
			ask(t, "the answer behind a spoilt argument", second, want)
		}
	}
}

// R3: Check and Read change nothing, and what Read answers is the caller's own; a transaction handed in is as it was.
func TestNothingElseIsChanged(t *testing.T) {
	for _, c := range append(sound(), wrong()...) {
		given := twin(c)
		register.Check(given)
		first, second := register.Read(given), register.Read(given)
		want := slices.Clone(second.Texts)
		fill(first.Texts, "spoilt")
		ask(t, "the argument", given, c)
		ask(t, "the room behind", whole(given), whole(twin(c)))
		if !slices.Equal(second.Texts, want) {
			t.Error("the other answer", second.Texts)
		}
	}
	x := api.Tx{Dot: dot(1, 1), Time: 3, Ops: roomy([]api.Op{{Kind: api.Last, Key: "a", Act: api.ActPut, Text: "t"}})}
	was := slices.Clone(x.Ops[:cap(x.Ops)])
	register.Do(cell(api.Last), x, 1, "t")
	register.Clear(cell(api.Many), x, 1)
	if !slices.Equal(x.Ops[:cap(x.Ops)], was) {
		t.Error("ops", x.Ops)
	}
}

// R1, R7: numbers at the ends of what there is lead to answers, and nothing comes round.
func TestExtremes(t *testing.T) {
	ends := []int{math.MinInt, math.MinInt + 1, -1, 0, 1, math.MaxInt - 1, math.MaxInt}
	for _, c := range append(sound(), wrong()...) {
		for _, p := range ends {
			for _, s := range ends {
				x := tx(p, s, p, api.Vec{p, s, p, s, p, s, p, s, p, s, p, s, p})
				for _, i := range ends {
					got, left := register.Do(c, x, i, "n"), register.Clear(c, x, i)
					if register.Check(got) != register.Check(c) || register.Check(left) != register.Check(c) {
						t.Errorf("%+v at %d: %+v, %+v", x, i, got, left)
					}
					register.Read(got)
				}
			}
		}
	}
}

// R8: the same call answers the same, however often it is made.
func TestTheSameAgain(t *testing.T) {
	c := smallCell(api.Many)
	want := register.Read(c).Texts
	for range 100 {
		askRead(t, c, want...)
	}
}
