package seq_test

import (
	"fmt"
	"math"
	"math/rand"
	"reflect"
	"slices"
	"strings"
	"testing"

	"plexus/api"
	"plexus/ops"
	"plexus/seq"
	"plexus/vec"
)

// textMost is how many bytes a text has at most, as the document has it.
const textMost = 64

// mk answers a Mark.
func mk(peer int, seq int, index int) api.Mark {
	return api.Mark{Dot: api.Dot{Peer: peer, Seq: seq}, Index: index}
}

// none is the Mark that names no element.
func none() api.Mark {
	return api.Mark{}
}

// el answers an element, and the ops by which it is gone.
func el(m api.Mark, time int, ref api.Mark, text string, gone ...api.Mark) api.Elem {
	return api.Elem{Mark: m, Time: time, Ref: ref, Text: text, Gone: gone}
}

// line answers the sequence of these elements, in that order.
func line(l ...api.Elem) api.Cell {
	return api.Cell{Kind: 5, Elems: l}
}

// tx answers a transaction of that name, of the time 7, that has seen deps.
func tx(peer int, seq int, deps api.Vec) api.Tx {
	return api.Tx{Dot: api.Dot{Peer: peer, Seq: seq}, Deps: deps, Time: 7}
}

// ins puts an element of that mark and time behind ref, by an op that has seen nothing.
func ins(c api.Cell, m api.Mark, time int, ref api.Mark, s string) api.Cell {
	return seq.Ins(c, api.Tx{Dot: m.Dot, Time: time}, m.Index, ref, s)
}

// everything is a vector of all that there may be.
func everything() api.Vec {
	var v api.Vec
	for p := 1; p < len(v); p++ {
		v[p] = api.MaxSeq
	}
	return v
}

// several are elements of several peers: some are there, some are gone by one op or two, some of these stand ahead of others.
func several() []api.Elem {
	return []api.Elem{
		el(mk(1, 1, 1), 1, none(), "a"),
		el(mk(1, 1, 2), 1, mk(1, 1, 1), "b"),
		el(mk(1, 2, 1), 4, mk(1, 1, 2), "c", mk(2, 3, 1)),
		el(mk(2, 1, 1), 2, mk(1, 1, 1), "d", mk(1, 3, 1), mk(3, 1, 2)),
		el(mk(2, 2, 16), 2, none(), ""),
		el(mk(3, 1, 1), 4, mk(1, 2, 1), "f"),
		el(mk(12, 4, 3), 4, mk(1, 1, 2), "g", mk(12, 4, 4)),
	}
}

// sameElem tells whether two elements are the same.
func sameElem(a api.Elem, b api.Elem) bool {
	return a.Mark == b.Mark && a.Time == b.Time && a.Ref == b.Ref && a.Text == b.Text && slices.Equal(a.Gone, b.Gone)
}

// sameMember tells whether two members are the same.
func sameMember(a api.Member, b api.Member) bool {
	return a.Text == b.Text && a.Base == b.Base && slices.Equal(a.Marks, b.Marks)
}

// same tells whether two cells are the same; nil and empty lists are.
func same(a api.Cell, b api.Cell) bool {
	lists := slices.Equal(a.Amounts, b.Amounts) && slices.Equal(a.Writes, b.Writes) && slices.EqualFunc(a.Members, b.Members, sameMember)
	return lists && a.Kind == b.Kind && a.Base == b.Base && slices.EqualFunc(a.Elems, b.Elems, sameElem)
}

// ask holds an answer against the cell that is wanted.
func ask(t *testing.T, what string, got api.Cell, want api.Cell) {
	t.Helper()
	if !same(got, want) {
		t.Errorf("%s: %+v, want %+v", what, got, want)
	}
}

// askRead holds what is read of a sequence against the texts that are wanted.
func askRead(t *testing.T, c api.Cell, texts ...string) {
	t.Helper()
	got := seq.Read(c)
	if got.Kind != 5 || got.N != 0 || len(got.Fields) != 0 || !slices.Equal(got.Texts, texts) {
		t.Errorf("Read(%+v) = %+v, want %q", c, got, texts)
	}
}

// askOrder holds Order of a sequence against the marks that are wanted.
func askOrder(t *testing.T, c api.Cell, want ...api.Mark) {
	t.Helper()
	if got := seq.Order(c); !slices.Equal(got, want) {
		t.Errorf("Order(%+v) = %+v, want %+v", c, got, want)
	}
}

// askCheck asks Check.
func askCheck(t *testing.T, c api.Cell, want bool) {
	t.Helper()
	if got := seq.Check(c); got != want {
		t.Errorf("Check(%+v) = %v, want %v", c, got, want)
	}
}

// wrongMarks are lists of marks that no element is gone by: that do not rise, of which two are one, with an Index below 1.
func wrongMarks() [][]api.Mark {
	return [][]api.Mark{
		{mk(2, 1, 1), mk(1, 1, 1)}, {mk(2, 1, 1), mk(1, 2, 2)}, {mk(1, 2, 1), mk(1, 1, 1)}, {mk(1, 2, 1), mk(1, 1, 2)}, {mk(1, 1, 2), mk(1, 1, 1)},
		{mk(1, 1, 1), mk(1, 1, 1)}, {mk(1, 1, 1), mk(2, 1, 1), mk(2, 1, 1)}, {mk(1, 1, 1), mk(3, 1, 1), mk(2, 1, 1)}, {mk(1, 1, 1), mk(2, 1, 1), mk(1, 1, 1)},
		{mk(1, 1, 0)}, {mk(1, 1, -1)}, {mk(1, 1, math.MinInt)}, {{}}, {mk(1, 1, 0), mk(1, 1, 1)}, {mk(1, 1, 1), mk(1, 2, 0)}, {mk(1, 1, 1), mk(1, 2, -1), mk(1, 3, 1)},
	}
}

// wrongElems are lists of elements that no sequence has: out of order, of one mark twice, with texts too long, with marks of Gone that may not be, behind what is not there, or behind themselves; at every place of a list.
func wrongElems() [][]api.Elem {
	l := [][]api.Elem{
		{el(mk(2, 1, 1), 1, none(), "b"), el(mk(1, 1, 1), 1, none(), "a")},
		{el(mk(1, 1, 1), 1, none(), "a"), el(mk(1, 1, 1), 1, none(), "a")},
		{el(mk(1, 1, 1), 1, none(), "a"), el(mk(1, 1, 1), 2, none(), "b")},
		{el(mk(1, 1, 1), 1, mk(1, 1, 1), "a")},
		{el(mk(1, 1, 1), 1, mk(1, 1, 2), "a"), el(mk(1, 1, 2), 1, mk(1, 1, 1), "b")},
		{el(mk(1, 1, 1), 1, mk(1, 1, 2), "a")},
		{el(none(), 1, none(), "a")}, {{}}, {el(none(), 1, none(), ""), el(mk(1, 1, 1), 1, none(), "a")},
	}
	spoilt := func(k int, spoil func(*api.Elem)) {
		x := several()
		spoil(&x[k])
		l = append(l, x)
	}
	for k, x := range several() {
		for _, n := range []int{textMost + 1, textMost + 2, 1000} {
			spoilt(k, func(e *api.Elem) { e.Text = strings.Repeat("x", n) })
		}
		for _, gone := range wrongMarks() {
			spoilt(k, func(e *api.Elem) { e.Gone = gone })
		}
		for _, ref := range []api.Mark{x.Mark, mk(9, 9, 9), mk(0, 0, 1), mk(1, 0, 0), mk(0, 1, 0), {Dot: x.Mark.Dot}, {Index: x.Mark.Index}, mk(x.Mark.Dot.Peer, x.Mark.Dot.Seq, 99)} {
			spoilt(k, func(e *api.Elem) { e.Ref = ref })
		}
		l = append(l, slices.Insert(several(), k, x))
		if k > 0 {
			y := several()
			y[k-1], y[k] = y[k], y[k-1]
			l = append(l, y)
		}
	}
	// a, b, c, f stand behind each other: a behind one of the others is behind itself.
	for _, ref := range []api.Mark{mk(1, 1, 2), mk(1, 2, 1), mk(3, 1, 1), mk(2, 1, 1), mk(12, 4, 3)} {
		spoilt(0, func(e *api.Elem) { e.Ref = ref })
	}
	spoilt(1, func(e *api.Elem) { e.Ref = mk(3, 1, 1) })
	spoilt(2, func(e *api.Elem) { e.Ref = mk(3, 1, 1) })
	return l
}

// others are the lists of other kinds' cells.
func others() []api.Cell {
	m := mk(1, 1, 1)
	return []api.Cell{
		{Amounts: []api.Amount{{}}},
		{Amounts: []api.Amount{{Mark: m, N: 3}, {Mark: m}}},
		{Writes: []api.Write{{}}},
		{Writes: []api.Write{{Mark: m, Time: 3, Text: "w"}, {Mark: m}}},
		{Members: []api.Member{{}}},
		{Members: []api.Member{{Text: "a", Base: true}, {Text: "a", Marks: []api.Mark{m, m}}}},
		{Amounts: []api.Amount{{Mark: m}}, Writes: []api.Write{{Mark: m}}, Members: []api.Member{{Text: "a", Marks: []api.Mark{m}}}},
	}
}

// wrong are cells that do not Check.
func wrong() []api.Cell {
	l := []api.Cell{{}, {Base: 5}}
	for _, kind := range []int{math.MinInt, -1, 0, api.Counter, api.Last, api.Many, api.Set, api.Map, api.Roster, 8, math.MaxInt} {
		l = append(l, api.Cell{Kind: kind}, api.Cell{Kind: kind, Elems: several()})
	}
	for _, base := range []int{-1, 1, math.MinInt, math.MaxInt} {
		l = append(l, api.Cell{Kind: api.Seq, Base: base}, api.Cell{Kind: api.Seq, Base: base, Elems: several()})
	}
	for _, x := range wrongElems() {
		l = append(l, line(x...))
	}
	for _, c := range others() {
		l = append(l, c)
		c.Kind = api.Seq
		l = append(l, c)
		c.Elems = several()
		l = append(l, c)
	}
	return l
}

// sound are cells that Check.
func sound() []api.Cell {
	return []api.Cell{
		line(), line(several()...), line(several()[:4]...), line(several()[4:5]...),
		line(el(mk(1, 1, 1), 1, none(), "")), line(el(mk(1, 1, 1), 1, none(), "a", mk(1, 1, 1))), line(el(mk(1, 1, 1), 1, mk(2, 1, 1), "b"), el(mk(2, 1, 1), 2, none(), "a")),
		line(el(mk(12, api.MaxSeq, api.MaxOps), api.MaxTime, none(), strings.Repeat("z", textMost))),
	}
}

// shapes are cells that Check, and of those that do not one of each shape.
func shapes() []api.Cell {
	ring := line(el(mk(1, 1, 1), 1, mk(1, 1, 1), "a", mk(2, 1, 1)))
	l := append(sound(), api.Cell{}, api.Cell{Kind: api.Set, Elems: several()}, api.Cell{Kind: api.Seq, Base: 1, Elems: several()}, ring, line(several()[2:]...), line(el(mk(1, 1, 1), 1, none(), "a", wrongMarks()[0]...)))
	for _, c := range others() {
		c.Kind, c.Elems = api.Seq, several()
		l = append(l, c)
	}
	return l
}

// P11.1 to P11.3: the chapter's example, and the same where all three have one time, or the last one is earlier.
func TestExample(t *testing.T) {
	for _, c := range []struct {
		time int
		want []string
	}{{2, []string{"a", "c", "b"}}, {1, []string{"a", "c", "b"}}, {0, []string{"a", "b", "c"}}} {
		got := ins(ins(ins(line(), mk(1, 1, 1), 1, none(), "a"), mk(1, 1, 2), 1, mk(1, 1, 1), "b"), mk(2, 1, 1), c.time, mk(1, 1, 1), "c")
		ask(t, "Ins", got, line(el(mk(1, 1, 1), 1, none(), "a"), el(mk(1, 1, 2), 1, mk(1, 1, 1), "b"), el(mk(2, 1, 1), c.time, mk(1, 1, 1), "c")))
		askRead(t, got, c.want...)
	}
}

// P11.1: what may be: no element, one, several; empty lists are as nil ones.
func TestCheckOfSound(t *testing.T) {
	for _, c := range sound() {
		askCheck(t, c, true)
		c.Amounts, c.Writes, c.Members = []api.Amount{}, []api.Write{}, []api.Member{}
		askCheck(t, c, true)
		c.Amounts, c.Writes, c.Members = make([]api.Amount, 0, 3), make([]api.Write, 0, 3), make([]api.Member, 0, 3)
		askCheck(t, c, true)
	}
	askCheck(t, api.Cell{Kind: 5, Elems: []api.Elem{}}, true)
	askCheck(t, line(el(mk(1, 1, 1), 1, none(), "a", []api.Mark{}...)), true)
}

// P11.1: what may not: other kinds, a base, other lists, elements that do not rise or may not be, Refs that are none's, rings.
func TestCheckOfWrong(t *testing.T) {
	for _, c := range wrong() {
		askCheck(t, c, false)
	}
}

// P11.1: of all kinds Seq alone is a sequence, and its Base is 0.
func TestCheckKindAndBase(t *testing.T) {
	for kind := -2; kind <= 9; kind++ {
		for base := -2; base <= 2; base++ {
			askCheck(t, api.Cell{Kind: kind, Base: base}, kind == 5 && base == 0)
			askCheck(t, api.Cell{Kind: kind, Base: base, Elems: several()}, kind == 5 && base == 0)
		}
	}
}

// P11.1: a Text has up to MaxText bytes, whatever they are, of an element that is there and of one that is gone.
func TestCheckText(t *testing.T) {
	wide := strings.Repeat("ä", textMost/2)
	for _, e := range []api.Elem{el(mk(1, 1, 1), 1, none(), ""), el(mk(1, 1, 1), 1, none(), "", mk(2, 1, 1))} {
		for _, s := range []string{"", "x", "\x00", "\xff", strings.Repeat("x", 63), strings.Repeat("x", 64), strings.Repeat("\xfe", 64), wide} {
			e.Text = s
			askCheck(t, line(e), true)
		}
		for _, s := range []string{strings.Repeat("x", 65), strings.Repeat("\x00", 65), wide + "x", strings.Repeat("ä", 33), strings.Repeat("x", 1000)} {
			e.Text = s
			askCheck(t, line(e), false)
			askCheck(t, line(e, el(mk(2, 1, 1), 1, none(), "b")), false)
			askCheck(t, line(el(mk(0, 0, 1), 1, none(), "b"), e), false)
		}
	}
}

// P11.1: an Index goes from 1 on, of each element and of each Mark that it is gone by.
func TestCheckIndex(t *testing.T) {
	for _, index := range []int{math.MinInt, -1, 0, 1, 2, api.MaxOps, api.MaxOps + 1, math.MaxInt} {
		m := mk(1, 1, index)
		askCheck(t, line(el(m, 1, none(), "a")), index >= 1)
		askCheck(t, line(el(mk(1, 0, 1), 1, none(), "a"), el(m, 1, none(), "b"), el(mk(2, 0, 1), 1, none(), "c")), index >= 1)
		askCheck(t, line(el(mk(1, 0, 1), 1, m, "a"), el(m, 1, none(), "b")), index >= 1)
		for _, gone := range [][]api.Mark{{m}, {m, mk(1, 2, 1)}, {mk(1, 0, 1), m}, {mk(0, 0, 1), m, mk(2, 0, 1)}} {
			askCheck(t, line(el(mk(1, 1, 1), 1, none(), "a", gone...)), index >= 1)
		}
	}
}

// P11.1: nothing is asked of a Dot, but that marks rise, and nothing of a Time; an element may be gone by any op, by its own one too, and several by one.
func TestCheckAnyDotAndTime(t *testing.T) {
	l := []api.Mark{mk(math.MinInt, math.MaxInt, 1), mk(-1, 3, 1), mk(0, 0, 1), mk(13, math.MinInt, 2), mk(13, -1, 1), mk(math.MaxInt, 0, 1)}
	var elems []api.Elem
	for k, time := range []int{math.MinInt, -1, 0, 1, api.MaxTime + 1, math.MaxInt} {
		elems = append(elems, el(l[k], time, none(), "a", l...))
	}
	askCheck(t, line(elems...), true)
	for k := range elems {
		elems[k].Ref = l[5]
	}
	elems[5].Ref = none()
	askCheck(t, line(elems...), true)
}

// smallMarks are all marks of three peers, up to two transactions and two ops of each, rising.
func smallMarks() []api.Mark {
	var l []api.Mark
	for k := range 12 {
		l = append(l, mk(1+k>>2, 1+k>>1&1, 1+k&1))
	}
	return l
}

// P11.1: of all lists of up to three elements of some marks, and of up to three marks of Gone, just those that rise Check.
func TestCheckRising(t *testing.T) {
	l := smallMarks()
	at := func(m api.Mark) api.Elem { return el(m, 1, none(), "a") }
	for a, x := range l {
		for b, y := range l {
			askCheck(t, line(at(x), at(y)), a < b)
			askCheck(t, line(el(mk(9, 9, 9), 1, none(), "a", x, y)), a < b)
			for c, z := range l {
				askCheck(t, line(at(x), at(y), at(z)), a < b && b < c)
				askCheck(t, line(el(mk(9, 9, 9), 1, none(), "a", x, y, z)), a < b && b < c)
			}
		}
	}
}

// forests calls f with all lists of n elements, each of whose Refs is zero or the mark of one of them; those with rings too.
func forests(n int, f func([]api.Elem)) {
	var l []api.Elem
	for k := range n {
		l = append(l, el(smallMarks()[2*k+k%2], 1, none(), string(rune('a'+k))))
	}
	ways := 1
	for range n {
		ways *= n + 1
	}
	for way := range ways {
		for k := range l {
			l[k].Ref = none()
			if ref := way % (n + 1); ref > 0 {
				l[k].Ref = l[ref-1].Mark
			}
			way /= n + 1
		}
		f(l)
	}
}

// grounded tells, the plain way, whether each element comes to the zero Ref within as many steps as there are elements.
func grounded(l []api.Elem) bool {
	for _, e := range l {
		for range l {
			k := slices.IndexFunc(l, func(o api.Elem) bool { return o.Mark == e.Ref })
			if k >= 0 {
				e = l[k]
			}
		}
		if e.Ref != none() {
			return false
		}
	}
	return true
}

// P11.1: of all lists of up to five elements that stand behind each other in whatever way, just those without a ring Check: (n+1)^(n-1) of each length n.
func TestCheckRings(t *testing.T) {
	for n, want := range []int{1, 1, 3, 16, 125, 1296} {
		count := 0
		forests(n, func(l []api.Elem) {
			askCheck(t, line(l...), grounded(l))
			if seq.Check(line(l...)) {
				count++
			}
		})
		if count != want {
			t.Errorf("%d of %d elements Check, want %d", count, n, want)
		}
	}
}

// P11.1: calls of one that does not Check answer it as it is, Read the zero Value, Order nothing.
func TestCallsOfWrong(t *testing.T) {
	for _, c := range wrong() {
		for _, x := range []api.Tx{tx(3, 9, everything()), tx(3, 9, api.Vec{}), tx(1, 1, api.Vec{}), {}} {
			for i := -1; i <= 2; i++ {
				for _, ref := range []api.Mark{none(), mk(1, 1, 1), mk(1, 2, 1), mk(9, 9, 9)} {
					ask(t, "Ins", seq.Ins(c, x, i, ref, "n"), c)
					ask(t, "Del", seq.Del(c, x, i, ref), c)
				}
				ask(t, "Clear", seq.Clear(c, x, i), c)
			}
			ask(t, "Fold", seq.Fold(c, x.Deps), c)
		}
		if got := seq.Read(c); got.Kind != 0 || got.N != 0 || len(got.Texts) != 0 || len(got.Fields) != 0 {
			t.Errorf("Read(%+v) = %+v", c, got)
		}
		if got := seq.Order(c); len(got) != 0 {
			t.Errorf("Order(%+v) = %+v", c, got)
		}
	}
}

// P11.2: no element, one, several: those that are gone are not told, those behind them are.
func TestOrderAndRead(t *testing.T) {
	askRead(t, line())
	askOrder(t, line())
	askRead(t, line(el(mk(1, 1, 1), 1, none(), "")), "")
	askOrder(t, line(el(mk(1, 1, 1), 1, none(), "")), mk(1, 1, 1))
	askRead(t, line(el(mk(1, 1, 1), 1, none(), "a", mk(1, 1, 1))))
	askOrder(t, line(el(mk(1, 1, 1), 1, none(), "a", mk(1, 1, 1))))
	c := line(several()...)
	askRead(t, c, "", "a", "b", "f")
	askOrder(t, c, mk(2, 2, 16), mk(1, 1, 1), mk(1, 1, 2), mk(3, 1, 1))
	for k := range c.Elems {
		c.Elems[k].Gone = nil
	}
	askRead(t, c, "", "a", "d", "b", "g", "c", "f")
	askOrder(t, c, mk(2, 2, 16), mk(1, 1, 1), mk(2, 1, 1), mk(1, 1, 2), mk(12, 4, 3), mk(1, 2, 1), mk(3, 1, 1))
}

// P11.2: of those with one Ref, zero or an element's, the one of the greater Time comes first, of one Time the one of the greater Peer, then Seq, then Index.
func TestOrderOfOneRef(t *testing.T) {
	l := []api.Elem{
		el(mk(1, 1, 1), 3, none(), "g"), el(mk(1, 1, 2), 3, none(), "f"), el(mk(1, 2, 1), 3, none(), "e"), el(mk(1, 3, 1), 9, none(), "b"),
		el(mk(2, 1, 1), 3, none(), "d"), el(mk(2, 2, 1), -4, none(), "h"), el(mk(3, 1, 9), 9, none(), "a"), el(mk(11, 1, 1), 4, none(), "c"),
	}
	askRead(t, line(l...), "a", "b", "c", "d", "e", "f", "g", "h")
	for k := range l {
		l[k].Ref = mk(0, 0, 1)
	}
	askRead(t, line(slices.Insert(l, 0, el(mk(0, 0, 1), 1, none(), "first"))...), "first", "a", "b", "c", "d", "e", "f", "g", "h")
	for k := range l {
		l[k].Ref = mk(12, 1, 1)
	}
	askRead(t, line(append(l, el(mk(12, 1, 1), 1, none(), "gone", mk(12, 1, 2)))...), "a", "b", "c", "d", "e", "f", "g", "h")
}

// P11.2: all that stands behind an element comes ahead of the next one of its Ref, whatever the times are; a Ref may be of a greater mark.
func TestOrderOfWhole(t *testing.T) {
	l := []api.Elem{
		el(mk(1, 1, 1), 99, mk(3, 1, 1), "d"), el(mk(1, 2, 1), 5, mk(4, 1, 1), "b"), el(mk(2, 1, 1), 100, mk(1, 1, 1), "e"),
		el(mk(3, 1, 1), 1, none(), "c"), el(mk(4, 1, 1), 2, none(), "a"), el(mk(5, 1, 1), 0, none(), "f"),
	}
	askRead(t, line(l...), "a", "b", "c", "d", "e", "f")
}

// behindOne answers, the plain way, all elements that stand behind that mark, in order: of those of one Ref the latest one first, with all that is behind it.
func behindOne(l []api.Elem, ref api.Mark) []api.Elem {
	var kids, all []api.Elem
	for _, e := range l {
		if e.Ref == ref {
			kids = append(kids, e)
		}
	}
	for len(kids) > 0 {
		first := 0
		for k, e := range kids {
			if e.Time > kids[first].Time || e.Time == kids[first].Time && ops.Less(kids[first].Mark, e.Mark) {
				first = k
			}
		}
		all = append(append(all, kids[first]), behindOne(l, kids[first].Mark)...)
		kids = slices.Delete(kids, first, first+1)
	}
	return all
}

// askPlain holds Order and Read of a sequence against the plain way.
func askPlain(t *testing.T, c api.Cell) {
	t.Helper()
	var order []api.Mark
	var texts []string
	for _, e := range behindOne(c.Elems, none()) {
		if len(e.Gone) == 0 {
			order, texts = append(order, e.Mark), append(texts, e.Text)
		}
	}
	askOrder(t, c, order...)
	askRead(t, c, texts...)
}

// P11.2: all ways in which up to four elements stand behind each other, with two times, some of them gone.
func TestOrderOfAll(t *testing.T) {
	for n := range 5 {
		forests(n, func(l []api.Elem) {
			if !grounded(l) {
				return
			}
			for bits := range 1 << (2 * n) {
				for k := range l {
					l[k].Time, l[k].Gone = bits>>k&1, nil
					if bits>>(n+k)&1 == 1 {
						l[k].Gone = []api.Mark{mk(9, 1, 1)}
					}
				}
				askPlain(t, line(l...))
			}
		})
	}
}

// P11.2, R1: many elements behind one another: one behind one, each with a second one ahead or behind in the order, or all behind one.
func TestDeep(t *testing.T) {
	const n = 1 << 17
	chain := make([]api.Elem, n)
	for k := range chain {
		chain[k] = el(mk(1, 1+k, 1), 1, none(), "")
		if k > 0 {
			chain[k].Ref = mk(1, k, 1)
		}
	}
	askNumbers := func(c api.Cell, want func(k int) int) {
		got := seq.Order(c)
		if len(got) != n || len(seq.Read(c).Texts) != n {
			t.Fatal(len(got), "elements")
		}
		for k, m := range got {
			if m != mk(1, want(k), 1) {
				t.Fatalf("the element %d is %+v", k, m)
			}
		}
	}
	askNumbers(line(chain...), func(k int) int { return 1 + k })
	ring := slices.Clone(chain)
	ring[0].Ref = mk(1, n, 1)
	askCheck(t, line(ring...), false)
	ring[0].Ref, ring[1].Ref = none(), mk(1, n, 1)
	askCheck(t, line(ring...), false)
	for k := range chain {
		chain[k].Gone = []api.Mark{mk(2, 1, 1)}
	}
	if got := seq.Fold(line(chain...), api.Vec{0, 0, 1}); len(got.Elems) != 0 {
		t.Error(len(got.Elems), "left")
	}
	pairs := make([]api.Elem, n)
	for _, late := range []int{0, 1} {
		// The elements 1 and 2 are behind none, 3 and 4 behind 1, 5 and 6 behind 3, and so on.
		for k := range pairs {
			pairs[k] = el(mk(1, 1+k, 1), (k+late)%2, none(), "")
			if k > 1 {
				pairs[k].Ref = mk(1, k/2*2-1, 1)
			}
		}
		if late == 0 {
			// The one that others are behind comes last.
			askNumbers(line(pairs...), func(k int) int { return k/2*2 + 2 - k%2 })
			continue
		}
		askNumbers(line(pairs...), func(k int) int {
			if k < n/2 {
				return 2*k + 1
			}
			return 2 * (n - k)
		})
	}
	for k := range chain {
		chain[k] = el(mk(1, 1+k, 1), 1, none(), "")
	}
	askNumbers(line(chain...), func(k int) int { return n - k })
}

// P11.3: an Ins stands where its Mark belongs: at the front, in the middle, at the end of Elems, or where there is none; it has t's Time, ref and s, and is there.
func TestInsPlaces(t *testing.T) {
	ask(t, "none", ins(line(), mk(3, 1, 2), 9, none(), "n"), line(el(mk(3, 1, 2), 9, none(), "n")))
	for _, c := range []struct {
		mark api.Mark
		at   int
	}{
		{mk(0, 0, 1), 0}, {mk(1, 0, 99), 0}, {mk(1, 1, 3), 2}, {mk(1, 1, 99), 2}, {mk(1, 2, 2), 3}, {mk(1, 9, 1), 3},
		{mk(2, 0, 1), 3}, {mk(2, 1, 2), 4}, {mk(2, 2, 15), 4}, {mk(2, 2, 17), 5}, {mk(12, 4, 2), 6}, {mk(12, 4, 4), 7}, {mk(13, 1, 1), 7},
	} {
		for _, ref := range []api.Mark{none(), mk(1, 1, 1), mk(12, 4, 3), mk(2, 1, 1)} {
			for _, time := range []int{-5, 0, 3, api.MaxTime} {
				want := slices.Insert(several(), c.at, el(c.mark, time, ref, "n"))
				ask(t, "Ins", ins(line(several()...), c.mark, time, ref, "n"), line(want...))
			}
		}
	}
}

// P11.3: an Ins of a Mark that is there already changes nothing, whatever its text, its ref and its time are, of one that is gone too.
func TestInsAgain(t *testing.T) {
	c := line(several()...)
	for _, e := range several() {
		for _, deps := range []api.Vec{{}, {0, 1}, everything()} {
			for _, ref := range []api.Mark{none(), e.Ref, e.Mark, mk(2, 2, 16), mk(9, 9, 9)} {
				for _, s := range []string{e.Text, "n"} {
					ask(t, "again", seq.Ins(c, tx(e.Mark.Dot.Peer, e.Mark.Dot.Seq, deps), e.Mark.Index, ref, s), c)
				}
			}
		}
	}
}

// P11.3: a Text has up to MaxText bytes; a longer one is refused.
func TestInsText(t *testing.T) {
	for n := range 70 {
		for _, s := range []string{strings.Repeat("x", n), strings.Repeat("\xff", n)} {
			want := line()
			if n <= textMost {
				want = line(el(mk(1, 1, 1), 2, none(), s))
			}
			ask(t, "Ins", ins(line(), mk(1, 1, 1), 2, none(), s), want)
		}
	}
	ask(t, "long", ins(line(several()...), mk(9, 1, 1), 2, mk(1, 1, 1), strings.Repeat("x", 1000)), line(several()...))
}

// P11.3: an i below 1 changes nothing, of Ins, Del and Clear, whatever was seen; 1 does.
func TestIndexBelowOne(t *testing.T) {
	c := line(several()...)
	x := tx(9, 1, everything())
	for _, i := range []int{math.MinInt, -2, -1, 0} {
		for _, ref := range []api.Mark{none(), mk(1, 1, 1), mk(2, 1, 1), mk(9, 9, 9)} {
			ask(t, "Ins", seq.Ins(c, x, i, ref, "n"), c)
			ask(t, "Del", seq.Del(c, x, i, ref), c)
		}
		ask(t, "Clear", seq.Clear(c, x, i), c)
		ask(t, "Ins", seq.Ins(line(), x, i, none(), "n"), line())
	}
	for _, i := range []int{1, 2, api.MaxOps, api.MaxOps + 1, math.MaxInt} {
		ask(t, "Ins", seq.Ins(line(), x, i, none(), "n"), line(el(mk(9, 1, i), 7, none(), "n")))
		one := line(el(mk(1, 1, 1), 1, none(), "a"))
		gone := line(el(mk(1, 1, 1), 1, none(), "a", mk(9, 1, i)))
		ask(t, "Del", seq.Del(one, x, i, mk(1, 1, 1)), gone)
		ask(t, "Clear", seq.Clear(one, x, i), gone)
	}
}

// P11.3: a ref is zero, or an element's Mark, whether the op has seen that or not; with another one nothing changes: a Mark that is none's, the op's own, one with an element's Dot alone.
func TestInsRef(t *testing.T) {
	c := line(several()...)
	for _, deps := range []api.Vec{{}, {0, 1}} {
		x := tx(9, 1, deps)
		for _, ref := range []api.Mark{none(), mk(1, 1, 1), mk(1, 1, 2), mk(2, 2, 16), mk(3, 1, 1)} {
			ask(t, "there", seq.Ins(c, x, 1, ref, "n"), line(slices.Insert(several(), 6, el(mk(9, 1, 1), 7, ref, "n"))...))
		}
		for _, ref := range []api.Mark{mk(9, 1, 1), mk(9, 1, 2), mk(1, 1, 3), mk(1, 1, 0), mk(1, 0, 1), mk(0, 1, 1), mk(1, 3, 1), mk(0, 0, 1), mk(0, 1, 0), mk(1, 0, 0), mk(1, 1, -1), mk(12, 4, 4), mk(13, 1, 1), mk(math.MinInt, math.MaxInt, 1)} {
			ask(t, "not there", seq.Ins(c, x, 1, ref, "n"), c)
			ask(t, "of none", seq.Ins(line(), x, 1, ref, "n"), line())
		}
	}
}

// P11.3: an Ins behind an element that is gone is done, unless one of the ops by which it is gone is Before it: of all pairs of these, and all that it may have seen.
func TestInsBehindGone(t *testing.T) {
	l := smallMarks()
	for a, x := range l {
		for _, y := range l[a+1:] {
			c := line(el(mk(0, 0, 1), 1, none(), "a", x, y), el(mk(0, 0, 2), 1, none(), "b"))
			for _, d := range smallTxs() {
				for i := 1; i <= 3; i++ {
					made := el(api.Mark{Dot: d.Dot, Index: i}, 7, mk(0, 0, 1), "n")
					want := line(append(slices.Clone(c.Elems), made)...)
					if ops.Before(x, d, i) || ops.Before(y, d, i) {
						want = c
					}
					ask(t, "behind gone", seq.Ins(c, d, i, mk(0, 0, 1), "n"), want)
				}
			}
		}
	}
}

// P11.3: what counts is the Gone of the ref alone: not of those that this one stands behind, nor of others.
func TestInsBehindThere(t *testing.T) {
	c := line(el(mk(1, 1, 1), 1, none(), "a", mk(1, 2, 1)), el(mk(2, 1, 1), 1, mk(1, 1, 1), "b"), el(mk(3, 1, 1), 1, mk(2, 1, 1), "c", mk(1, 2, 1)))
	x := tx(9, 1, everything())
	ask(t, "behind b", seq.Ins(c, x, 1, mk(2, 1, 1), "n"), line(append(slices.Clone(c.Elems), el(mk(9, 1, 1), 7, mk(2, 1, 1), "n"))...))
	ask(t, "behind none", seq.Ins(c, x, 1, none(), "n"), line(append(slices.Clone(c.Elems), el(mk(9, 1, 1), 7, none(), "n"))...))
	ask(t, "behind a", seq.Ins(c, x, 1, mk(1, 1, 1), "n"), c)
	ask(t, "behind c", seq.Ins(c, x, 1, mk(3, 1, 1), "n"), c)
}

// P11.3: a Del puts its Mark where it belongs in the Gone of that element alone, whether the op has seen it or not: at the front, in the middle, at the end, or where there is none.
func TestDel(t *testing.T) {
	gone := []api.Mark{mk(1, 2, 2), mk(1, 2, 4), mk(2, 1, 1)}
	for _, c := range []struct {
		mark api.Mark
		at   int
	}{
		{mk(0, 0, 1), 0}, {mk(1, 1, 9), 0}, {mk(1, 2, 1), 0}, {mk(1, 2, 3), 1}, {mk(1, 2, 5), 2},
		{mk(1, 3, 1), 2}, {mk(2, 0, 9), 2}, {mk(2, 1, 2), 3}, {mk(2, 2, 1), 3}, {mk(13, 1, 1), 3},
	} {
		for _, deps := range []api.Vec{{}, {0, 1}, everything()} {
			x := tx(c.mark.Dot.Peer, c.mark.Dot.Seq, deps)
			for k, e := range several() {
				l := several()
				l[k].Gone = nil
				want := several()
				want[k].Gone = []api.Mark{c.mark}
				ask(t, "there", seq.Del(line(l...), x, c.mark.Index, e.Mark), line(want...))
				l[k].Gone, want[k].Gone = gone, slices.Insert(slices.Clone(gone), c.at, c.mark)
				ask(t, "gone", seq.Del(line(l...), x, c.mark.Index, e.Mark), line(want...))
			}
		}
	}
}

// P11.3: a Del of what is not there changes nothing; nor does one by which an element is gone already.
func TestDelNothing(t *testing.T) {
	c := line(several()...)
	for _, deps := range []api.Vec{{}, everything()} {
		for _, ref := range []api.Mark{none(), mk(9, 9, 9), mk(1, 1, 3), mk(1, 1, 0), mk(1, 0, 1), mk(0, 1, 1), mk(2, 3, 1), mk(12, 4, 4)} {
			ask(t, "not there", seq.Del(c, tx(9, 1, deps), 1, ref), c)
		}
		for _, e := range several() {
			for _, m := range e.Gone {
				ask(t, "again", seq.Del(c, tx(m.Dot.Peer, m.Dot.Seq, deps), m.Index, e.Mark), c)
			}
		}
		ask(t, "none", seq.Del(line(), tx(9, 1, deps), 1, mk(1, 1, 1)), line())
	}
}

// P11.3: what stands behind an element that is removed is read still, and keeps its place.
func TestDelKeepsOrder(t *testing.T) {
	c := line(several()...)
	for k := range c.Elems {
		c.Elems[k].Gone = nil
	}
	texts := seq.Read(c).Texts
	for k, m := range seq.Order(c) {
		askRead(t, seq.Del(c, tx(9, 1, api.Vec{}), 1, m), slices.Delete(slices.Clone(texts), k, k+1)...)
	}
}

// P11.3: a Clear by one who has seen none, some, all of the elements, the ops of its own transaction ahead of it too; those that are gone are gone by it, too.
func TestClear(t *testing.T) {
	c := line(several()...)
	ask(t, "none seen", seq.Clear(c, tx(9, 1, api.Vec{}), 1), c)
	ask(t, "no element", seq.Clear(line(), tx(9, 1, everything()), 1), line())
	want := several()
	for k := range 2 {
		want[k].Gone = []api.Mark{mk(9, 1, 1)}
	}
	ask(t, "one transaction seen", seq.Clear(c, tx(9, 1, api.Vec{0, 1}), 1), line(want...))
	askRead(t, line(want...), "", "f")
	want[2].Gone, want[3].Gone = []api.Mark{mk(2, 3, 1), mk(9, 1, 1)}, []api.Mark{mk(1, 3, 1), mk(3, 1, 2), mk(9, 1, 1)}
	ask(t, "some seen", seq.Clear(c, tx(9, 1, api.Vec{0, 2, 1}), 1), line(want...))
	for k, e := range several() {
		want[k].Gone = append(e.Gone, mk(99, 1, 1))
	}
	ask(t, "all seen", seq.Clear(c, tx(99, 1, everything()), 1), line(want...))
	askRead(t, line(want...))
	own := several()
	own[0].Gone = []api.Mark{mk(1, 1, 2)}
	ask(t, "its own ones ahead", seq.Clear(c, tx(1, 1, api.Vec{}), 2), line(own...))
	ask(t, "not its own one", seq.Clear(c, tx(1, 1, api.Vec{}), 1), c)
}

// P11.3: a Clear that was done changes nothing if it is done again.
func TestClearAgain(t *testing.T) {
	for _, x := range smallTxs() {
		once := seq.Clear(smallLine(), x, 2)
		ask(t, "again", seq.Clear(once, x, 2), once)
	}
}

// smallTxs are transactions of four peers that have seen up to two of each of the first three.
func smallTxs() []api.Tx {
	var l []api.Tx
	for p := 1; p <= 4; p++ {
		for s := 1; s <= 2; s++ {
			for _, deps := range smallVecs() {
				l = append(l, tx(p, s+2*(p/4), deps))
			}
		}
	}
	return l
}

// smallVecs are vectors of up to two of each of the first three peers.
func smallVecs() []api.Vec {
	var l []api.Vec
	for k := range 27 {
		l = append(l, api.Vec{0, k % 3, k / 3 % 3, k / 9})
	}
	return l
}

// smallLine is a sequence of all small marks, each behind the one that is three ahead of it; every third one is gone by the op five behind it.
func smallLine() api.Cell {
	l := smallMarks()
	c := line()
	for k, m := range l {
		e := el(m, k%4, none(), string(rune('a'+k)))
		if k >= 3 {
			e.Ref = l[k-3]
		}
		if k%3 == 0 {
			e.Gone = []api.Mark{l[(k+5)%12]}
		}
		c.Elems = append(c.Elems, e)
	}
	return c
}

// P11.3: Clear of all that small transactions may have seen, held against Before.
func TestClearOfAll(t *testing.T) {
	for _, x := range smallTxs() {
		for i := 1; i <= 3; i++ {
			own := api.Mark{Dot: x.Dot, Index: i}
			want := smallLine()
			for k, e := range want.Elems {
				if ops.Before(e.Mark, x, i) && !slices.Contains(e.Gone, own) {
					want.Elems[k].Gone = slices.SortedFunc(slices.Values(append(e.Gone, own)), byLess)
				}
			}
			ask(t, "Clear", seq.Clear(smallLine(), x, i), want)
		}
	}
}

// byLess compares marks by ops' Less.
func byLess(a api.Mark, b api.Mark) int {
	if ops.Less(a, b) {
		return -1
	}
	if ops.Less(b, a) {
		return 1
	}
	return 0
}

// P11.3: what a Fold takes: of elements that are gone those of which cut Has one Dot, and that are no other one's Ref.
func TestFold(t *testing.T) {
	c := line(several()...)
	without := func(l ...int) api.Cell {
		var left []api.Elem
		for k, e := range several() {
			if !slices.Contains(l, k) {
				left = append(left, e)
			}
		}
		return line(left...)
	}
	ask(t, "none", seq.Fold(c, api.Vec{}), c)
	ask(t, "no element", seq.Fold(line(), everything()), line())
	ask(t, "less than each", seq.Fold(c, api.Vec{0, 2, 2, 0, 9, 9, 9, 9, 9, 9, 9, 9, 3}), c)
	ask(t, "one of two Dots", seq.Fold(c, api.Vec{0, 3}), without(3))
	ask(t, "the other one", seq.Fold(c, api.Vec{0, 0, 0, 1}), without(3))
	ask(t, "both", seq.Fold(c, api.Vec{0, 3, 0, 1}), without(3))
	ask(t, "another one", seq.Fold(c, api.Vec{0, 0, 0, 0, 0, 0, 0, 0, 0, 0, 0, 0, 4}), without(6))
	ask(t, "another one's Ref", seq.Fold(c, api.Vec{0, 0, 3}), c)
	ask(t, "all", seq.Fold(c, everything()), without(3, 6))
	ask(t, "again", seq.Fold(seq.Fold(c, everything()), everything()), without(3, 6))
	gone := seq.Del(c, tx(1, 4, api.Vec{}), 1, mk(3, 1, 1))
	ask(t, "a chain of two", seq.Fold(gone, everything()), without(2, 3, 5, 6))
	ask(t, "the end of it", seq.Fold(gone, api.Vec{0, 4}), without(3, 5))
	ask(t, "and then the other one", seq.Fold(seq.Fold(gone, api.Vec{0, 4}), api.Vec{0, 0, 3}), without(2, 3, 5))
	ask(t, "the beginning of it", seq.Fold(gone, api.Vec{0, 0, 3}), gone)
}

// P11.3: a chain of elements that are gone goes up to the first one that stays: one that is there, or that no stable op took away, or that another one stands behind; whichever way their marks rise.
func TestFoldChains(t *testing.T) {
	const n = 9
	for _, turned := range []bool{false, true} {
		mark := func(k int) api.Mark {
			if turned {
				k = n - k
			}
			return mk(1, 1+k, 1)
		}
		for stop := range n {
			for what := range 3 {
				var l, want []api.Elem
				for k := range n {
					e := el(mark(k), 1, none(), "a", mk(2, 1, 1))
					if k > 0 {
						e.Ref = mark(k - 1)
					}
					if k == stop && what == 0 {
						e.Gone = nil
					}
					if k == stop && what == 1 {
						e.Gone = []api.Mark{mk(2, 2, 1)}
					}
					l = append(l, e)
				}
				if what == 2 {
					l = append(l, el(mk(0, 0, 1), 1, mark(stop), "x"))
				}
				for k, e := range l {
					if k <= stop || k == n {
						want = append(want, e)
					}
				}
				rise := func(a api.Elem, b api.Elem) int { return byLess(a.Mark, b.Mark) }
				slices.SortFunc(l, rise)
				slices.SortFunc(want, rise)
				ask(t, "a chain", seq.Fold(line(l...), api.Vec{0, 0, 1}), line(want...))
			}
		}
	}
}

// foldPlain folds the plain way: one that goes is looked for, again and again.
func foldPlain(l []api.Elem, cut api.Vec) []api.Elem {
	l = slices.Clone(l)
	for {
		k := slices.IndexFunc(l, func(e api.Elem) bool {
			stable := slices.ContainsFunc(e.Gone, func(m api.Mark) bool { return vec.Has(cut, m.Dot) })
			return stable && !slices.ContainsFunc(l, func(o api.Elem) bool { return o.Ref == e.Mark })
		})
		if k < 0 {
			return l
		}
		l = slices.Delete(l, k, k+1)
	}
}

// P11.3, P11.4: Fold of all ways in which up to four elements stand behind each other, each there, gone, or stably gone, held against the plain way; what is read is the same.
func TestFoldOfAll(t *testing.T) {
	goneBy := [][]api.Mark{nil, {mk(7, 2, 1)}, {mk(7, 1, 1), mk(7, 2, 1)}}
	cut := api.Vec{0, 9, 9, 9, 0, 0, 0, 1}
	for n := range 5 {
		ways := 1
		for range n {
			ways *= len(goneBy)
		}
		forests(n, func(l []api.Elem) {
			if !grounded(l) {
				return
			}
			for way := range ways {
				for k := range l {
					l[k].Gone = goneBy[way%len(goneBy)]
					way /= len(goneBy)
				}
				got := seq.Fold(line(l...), cut)
				ask(t, "Fold", got, line(foldPlain(l, cut)...))
				askRead(t, got, seq.Read(line(l...)).Texts...)
			}
		})
	}
}

// P11.3: Fold goes by what cut Has: of a Dot that no peer has it has nothing, whatever numbers stand in it.
func TestFoldHas(t *testing.T) {
	for _, m := range []api.Mark{mk(0, 0, 1), mk(0, 1, 1), mk(13, 1, 1), mk(-1, 1, 1), mk(1, 0, 1), mk(1, -1, 1), mk(1, 5, 1), mk(1, 6, 1), mk(12, 1, 3), mk(12, 6, 1)} {
		c := line(el(mk(2, 1, 1), 1, none(), "a", m))
		for _, cut := range []api.Vec{{}, {0, 5}, {9, 5, 0, 0, 0, 0, 0, 0, 0, 0, 0, 0, 3}, {-1, -1}, everything(), {math.MaxInt, math.MinInt}} {
			want := c
			if vec.Has(cut, m.Dot) {
				want = line()
			}
			ask(t, "Fold", seq.Fold(c, cut), want)
		}
	}
}

// deed is one op of a transaction, and what it does to a sequence.
type deed struct {
	tx    api.Tx
	index int
	act   int
	ref   api.Mark
	text  string
}

// clears is the act of a deed that clears a sequence.
const clears = api.ActDrop

// done does a deed.
func (d deed) done(c api.Cell) api.Cell {
	switch d.act {
	case api.ActIns:
		return seq.Ins(c, d.tx, d.index, d.ref, d.text)
	case api.ActDel:
		return seq.Del(c, d.tx, d.index, d.ref)
	}
	return seq.Clear(c, d.tx, d.index)
}

// mark answers a deed's Mark.
func (d deed) mark() api.Mark {
	return api.Mark{Dot: d.tx.Dot, Index: d.index}
}

// sees tells whether a deed has seen the op of a mark.
func (d deed) sees(m api.Mark) bool {
	return ops.Before(m, d.tx, d.index)
}

// removes tells whether a deed takes away the element of a mark.
func (d deed) removes(m api.Mark) bool {
	return d.act == api.ActDel && d.ref == m || d.act == clears && d.sees(m)
}

// counts tells, by definition, whether a deed of these makes an element: it is behind none, or behind one that counts and that nobody removed whom it has seen.
func (d deed) counts(done []deed) bool {
	if d.act != api.ActIns || d.ref == none() {
		return d.act == api.ActIns
	}
	k := slices.IndexFunc(done, func(o deed) bool { return o.mark() == d.ref })
	return k >= 0 && done[k].counts(done) && !slices.ContainsFunc(done, func(o deed) bool { return o.removes(d.ref) && d.sees(o.mark()) })
}

// defined answers, by definition, the sequence that deeds which were done come to.
func defined(done []deed) api.Cell {
	c := line()
	for _, d := range done {
		if !d.counts(done) {
			continue
		}
		e := el(d.mark(), d.tx.Time, d.ref, d.text)
		for _, o := range done {
			if o.removes(e.Mark) {
				e.Gone = append(e.Gone, o.mark())
			}
		}
		slices.SortFunc(e.Gone, byLess)
		c.Elems = append(c.Elems, e)
	}
	slices.SortFunc(c.Elems, func(a api.Elem, b api.Elem) int { return byLess(a.Mark, b.Mark) })
	return c
}

// orders calls f with every order of l, from the place k on.
func orders(l []deed, k int, f func([]deed)) {
	if k == len(l) {
		f(l)
		return
	}
	for j := k; j < len(l); j++ {
		l[k], l[j] = l[j], l[k]
		orders(l, k+1, f)
		l[k], l[j] = l[j], l[k]
	}
}

// P11.4: every order of insertions of six peers that have not seen each other, of several times, behind none and behind elements that are there or gone, comes to one sequence.
func TestEveryOrder(t *testing.T) {
	at := func(peer int, time int) api.Tx {
		return api.Tx{Dot: api.Dot{Peer: peer, Seq: 1}, Deps: api.Vec{0, 1}, Time: time}
	}
	first := line(el(mk(1, 1, 1), 1, none(), "a"), el(mk(1, 1, 2), 1, mk(1, 1, 1), "b", mk(7, 1, 1)))
	l := []deed{
		{at(2, 2), 1, api.ActIns, mk(1, 1, 1), "c"}, {at(3, 2), 1, api.ActIns, mk(1, 1, 1), "d"}, {at(4, 3), 1, api.ActIns, mk(1, 1, 2), "e"},
		{at(5, 2), 1, api.ActIns, none(), "f"}, {at(6, 1), 1, api.ActIns, none(), "g"}, {at(12, 2), 3, api.ActIns, mk(1, 1, 2), "h"},
	}
	var want api.Cell
	count := 0
	orders(l, 0, func(l []deed) {
		c := first
		for _, d := range l {
			c = d.done(c)
		}
		if count == 0 {
			want = c
		}
		ask(t, "in this order", c, want)
		askRead(t, c, "f", "g", "a", "d", "c", "e", "h")
		count++
	})
	if count != 720 {
		t.Error(count, "orders")
	}
}

// ready tells whether all that a deed has seen, of a history, is among those that were done.
func ready(d deed, all []deed, done []deed) bool {
	for _, o := range all {
		if d.sees(o.mark()) && !slices.ContainsFunc(done, func(x deed) bool { return x.mark() == o.mark() }) {
			return false
		}
	}
	return true
}

// P11.4: every order that may be of insertions, removals and a clear, some of which have seen some of the others, comes to one sequence.
func TestEveryOrderWithRemovals(t *testing.T) {
	l := []deed{
		{tx(1, 1, api.Vec{}), 1, api.ActIns, none(), "a"}, {tx(1, 2, api.Vec{0, 1}), 1, api.ActIns, mk(1, 1, 1), "b"}, {tx(2, 1, api.Vec{0, 1}), 1, api.ActDel, mk(1, 1, 1), ""},
		{tx(2, 2, api.Vec{0, 1, 1}), 1, api.ActIns, mk(1, 1, 1), "refused"}, {tx(3, 1, api.Vec{0, 1}), 1, api.ActIns, mk(1, 1, 1), "c"}, {tx(4, 1, api.Vec{0, 2}), 1, clears, none(), ""},
	}
	count := 0
	orders(l, 0, func(l []deed) {
		c := line()
		for k, d := range l {
			if !ready(d, l, l[:k]) {
				return
			}
			c = d.done(c)
		}
		ask(t, "in this order", c, defined(l))
		askRead(t, c, "c")
		count++
	})
	if count != 30 {
		t.Error(count, "orders")
	}
}

// history answers deeds of three peers: each is of a transaction that has seen all that its peer had, and what those had seen; its refs are of ops that it has seen.
func history(r *rand.Rand, n int) []deed {
	acts := []int{api.ActIns, api.ActIns, api.ActIns, api.ActIns, api.ActDel, api.ActDel, clears}
	var l []deed
	var has [4]api.Vec
	for range n {
		p := 1 + r.Intn(3)
		for q := range has {
			if r.Intn(3) == 0 {
				has[p] = vec.Join(has[p], has[q])
			}
		}
		x := tx(p, has[p][p]+1, has[p])
		x.Time = 1 + r.Intn(4)
		for i := range 1 + r.Intn(3) {
			d := deed{x, i + 1, acts[r.Intn(len(acts))], none(), string(rune('a' + len(l)))}
			for _, o := range l {
				if d.act != clears && d.sees(o.mark()) && r.Intn(3) == 0 {
					d.ref = o.mark()
				}
			}
			l = append(l, d)
		}
		has[p][p]++
	}
	return l
}

// cutOf answers a cut that all that is to come has seen: all that there may be, if nothing is.
func cutOf(left []deed) api.Vec {
	cut := everything()
	for _, d := range left {
		cut = vec.Meet(cut, d.tx.Deps)
	}
	return cut
}

// P11.3, P11.4: many histories, done in many orders, each op behind all that it has seen: what is there is what the definition says. One that is folded in between, by what all that is to come has seen, reads the same, then and later.
func TestHistories(t *testing.T) {
	for seed := range int64(200) {
		r := rand.New(rand.NewSource(seed))
		all := history(r, 2+r.Intn(9))
		for range 8 {
			plain, folded, left, done := line(), line(), slices.Clone(all), []deed{}
			for len(left) > 0 {
				k := r.Intn(len(left))
				d := left[k]
				if !ready(d, all, done) {
					continue
				}
				done, left = append(done, d), slices.Delete(left, k, k+1)
				plain, folded = d.done(plain), d.done(folded)
				ask(t, "so far", plain, defined(done))
				askPlain(t, plain)
				if r.Intn(3) == 0 {
					folded = seq.Fold(folded, cutOf(left))
				}
				askCheck(t, folded, true)
				askRead(t, folded, seq.Read(plain).Texts...)
				askOrder(t, folded, seq.Order(plain)...)
			}
		}
	}
}

// P11.4: folding changes nothing that is read, by any cut.
func TestFoldReadsTheSame(t *testing.T) {
	cuts := append(smallVecs(), everything(), api.Vec{-1, -1, -1}, api.Vec{9, math.MaxInt, math.MinInt})
	for _, c := range append(sound(), smallLine()) {
		for _, cut := range cuts {
			got := seq.Fold(c, cut)
			askCheck(t, got, true)
			askRead(t, got, seq.Read(c).Texts...)
			askOrder(t, got, seq.Order(c)...)
		}
	}
}

// P11.3: folding by one cut and then by another one is folding by both, if the second one has all that the first one has.
func TestFoldTwice(t *testing.T) {
	c := smallLine()
	for _, cut := range smallVecs() {
		folded := seq.Fold(c, cut)
		for _, more := range smallVecs() {
			ask(t, "folded", seq.Fold(folded, vec.Join(cut, more)), seq.Fold(c, vec.Join(cut, more)))
		}
	}
}

// account is a plain account of a sequence: its elements by their marks, and the ops by which each is gone.
type account map[api.Mark]*entry

// entry is an element of an account.
type entry struct {
	elem api.Elem
	gone map[api.Mark]bool
}

// cell answers the sequence that an account tells of.
func (a account) cell() api.Cell {
	c := line()
	for _, x := range a {
		e := x.elem
		for m := range x.gone {
			e.Gone = append(e.Gone, m)
		}
		slices.SortFunc(e.Gone, byLess)
		c.Elems = append(c.Elems, e)
	}
	slices.SortFunc(c.Elems, func(a api.Elem, b api.Elem) int { return byLess(a.Mark, b.Mark) })
	return c
}

// ins puts an element into an account, if it may be there.
func (a account) ins(m api.Mark, time int, ref api.Mark, s string, seen func(api.Mark) bool) {
	behind := a[ref]
	if a[m] != nil || ref != none() && behind == nil {
		return
	}
	if behind != nil {
		for g := range behind.gone {
			if seen(g) {
				return
			}
		}
	}
	a[m] = &entry{el(m, time, ref, s), map[api.Mark]bool{}}
}

// P11.2, P11.3: many calls, one behind another, in no order of what was seen, held against a plain account.
func TestAccount(t *testing.T) {
	for seed := range int64(60) {
		r := rand.New(rand.NewSource(seed))
		c, a := line(), account{}
		for range 200 {
			x, i := tx(1+r.Intn(4), 1+r.Intn(4), api.Vec{0, r.Intn(4), r.Intn(4), r.Intn(4), r.Intn(4)}), 1+r.Intn(4)
			x.Time = r.Intn(5)
			own, ref := api.Mark{Dot: x.Dot, Index: i}, none()
			if r.Intn(6) > 0 {
				ref = mk(1+r.Intn(4), 1+r.Intn(4), 1+r.Intn(4))
			}
			seen := func(m api.Mark) bool { return m.Dot == x.Dot && m.Index < i || m.Dot.Seq <= x.Deps[m.Dot.Peer] }
			switch r.Intn(16) {
			case 0:
				c = seq.Clear(c, x, i)
				for m, e := range a {
					if seen(m) {
						e.gone[own] = true
					}
				}
			case 1:
				c = seq.Fold(c, x.Deps)
				left := foldPlain(a.cell().Elems, x.Deps)
				for m := range a {
					if !slices.ContainsFunc(left, func(e api.Elem) bool { return e.Mark == m }) {
						delete(a, m)
					}
				}
			case 2, 3, 4:
				c = seq.Del(c, x, i, ref)
				if a[ref] != nil {
					a[ref].gone[own] = true
				}
			default:
				s := string(rune('a' + r.Intn(26)))
				c = seq.Ins(c, x, i, ref, s)
				a.ins(own, x.Time, ref, s, seen)
			}
			ask(t, "so far", c, a.cell())
			askPlain(t, c)
		}
	}
}

// calls are calls of each function that answers a cell.
func calls() []func(api.Cell) api.Cell {
	var l []func(api.Cell) api.Cell
	for _, deps := range []api.Vec{{}, {0, 1}, {0, 2, 3}, everything(), {9, 1, math.MaxInt, -4, 1, 1, 1, 1, 1, 1, 1, 1, math.MinInt}} {
		for _, x := range []api.Tx{tx(1, 1, deps), tx(13, 1, deps), {Deps: deps}} {
			for _, i := range []int{-1, 0, 1, 2, math.MaxInt} {
				l = append(l, func(c api.Cell) api.Cell { return seq.Clear(c, x, i) })
				for _, ref := range []api.Mark{none(), mk(1, 1, 1), mk(2, 1, 1), mk(9, 9, 9)} {
					l = append(l, func(c api.Cell) api.Cell { return seq.Ins(c, x, i, ref, "n") })
					l = append(l, func(c api.Cell) api.Cell { return seq.Del(c, x, i, ref) })
				}
				l = append(l, func(c api.Cell) api.Cell { return seq.Ins(c, x, i, none(), strings.Repeat("x", 65)) })
			}
		}
		l = append(l, func(c api.Cell) api.Cell { return seq.Fold(c, deps) })
	}
	return l
}

// deep answers a value that is the same, of new memory, each list with some room behind its end.
func deep(v reflect.Value) reflect.Value {
	made := v
	switch v.Kind() {
	case reflect.Slice:
		made = reflect.MakeSlice(v.Type(), v.Len(), v.Len()+3)
		for k := range v.Len() {
			made.Index(k).Set(deep(v.Index(k)))
		}
	case reflect.Struct:
		made = reflect.New(v.Type()).Elem()
		for k := range v.NumField() {
			made.Field(k).Set(deep(v.Field(k)))
		}
	}
	return made
}

// roomy answers a cell that is the same, of new memory, with room behind its lists' ends.
func roomy(c api.Cell) api.Cell {
	return deep(reflect.ValueOf(c)).Interface().(api.Cell)
}

// lists answers all lists of a value, inner ones too, each with the room behind its end.
func lists(v reflect.Value) []reflect.Value {
	var all []reflect.Value
	switch v.Kind() {
	case reflect.Slice:
		v = v.Slice(0, v.Cap())
		all = append(all, v)
		for k := range v.Len() {
			all = append(all, lists(v.Index(k))...)
		}
	case reflect.Struct:
		for k := range v.NumField() {
			all = append(all, lists(v.Field(k))...)
		}
	}
	return all
}

// image tells all that a value's lists hold, and the room behind their ends.
func image(v any) string {
	var b strings.Builder
	for _, l := range lists(reflect.ValueOf(v)) {
		fmt.Fprintf(&b, "%+v\n", l)
	}
	return b.String()
}

// share tells whether two lists have memory in common.
func share(a reflect.Value, b reflect.Value) bool {
	size := func(v reflect.Value) uintptr { return uintptr(v.Cap()) * v.Type().Elem().Size() }
	return size(a) > 0 && size(b) > 0 && a.Pointer() < b.Pointer()+size(b) && b.Pointer() < a.Pointer()+size(a)
}

// askApart asks whether no two of all these values' lists have memory in common.
func askApart(t *testing.T, values ...any) {
	t.Helper()
	var all []reflect.Value
	for _, v := range values {
		all = append(all, lists(reflect.ValueOf(v))...)
	}
	for k, a := range all {
		for _, b := range all[:k] {
			if share(a, b) {
				t.Fatalf("%+v and %+v share memory, of %+v", a, b, values)
			}
		}
	}
}

// R3: an argument is as it was behind each call, its elements' Gone and the room behind its lists' ends too; an answer shares no memory with it, nor with another answer, and no two of its lists do.
func TestArgumentsAndAnswers(t *testing.T) {
	for _, c := range shapes() {
		given := roomy(c)
		was := image(given)
		for _, call := range calls() {
			first, second := call(given), call(given)
			ask(t, "the argument", given, c)
			ask(t, "the other answer", second, first)
			if image(given) != was {
				t.Fatalf("the room behind: %s, was %s", image(given), was)
			}
			askApart(t, given, first, second)
		}
	}
}

// R3: two elements that are handed in with one list of marks are answered with two.
func TestOneListTwice(t *testing.T) {
	gone := []api.Mark{mk(1, 1, 1), mk(2, 1, 1)}
	given := line(el(mk(1, 1, 1), 1, none(), "a", gone...), el(mk(2, 1, 1), 1, none(), "b", gone...))
	for _, call := range calls() {
		askApart(t, call(given), gone)
		ask(t, "the argument", given, line(el(mk(1, 1, 1), 1, none(), "a", mk(1, 1, 1), mk(2, 1, 1)), el(mk(2, 1, 1), 1, none(), "b", mk(1, 1, 1), mk(2, 1, 1))))
	}
	ask(t, "Del of one", seq.Del(given, tx(1, 2, api.Vec{}), 1, mk(2, 1, 1)), line(el(mk(1, 1, 1), 1, none(), "a", gone...), el(mk(2, 1, 1), 1, none(), "b", mk(1, 1, 1), mk(1, 2, 1), mk(2, 1, 1))))
}

// R3: Check, Order and Read change nothing, and what these answer is the caller's own; a transaction handed in is as it was.
func TestNothingElseIsChanged(t *testing.T) {
	for _, c := range append(sound(), wrong()...) {
		given := roomy(c)
		was := image(given)
		seq.Check(given)
		askApart(t, given, seq.Read(given), seq.Read(given), seq.Order(given), seq.Order(given))
		ask(t, "the argument", given, c)
		if image(given) != was {
			t.Errorf("the room behind: %s, was %s", image(given), was)
		}
	}
	x := api.Tx{Dot: api.Dot{Peer: 9, Seq: 1}, Ops: make([]api.Op, 1, 3)}
	x.Ops[0] = api.Op{Kind: api.Seq, Key: "k", Act: api.ActIns, Text: "a"}
	was := image(x)
	c := seq.Ins(line(several()...), x, 1, none(), "b")
	seq.Clear(seq.Del(c, x, 2, mk(9, 1, 1)), x, 3)
	if image(x) != was {
		t.Error("ops", x.Ops)
	}
}

// P11.3: nothing is asked of t but its Dot, its Time and what it has seen: its own ops count for nothing.
func TestOpsCountForNothing(t *testing.T) {
	x := tx(9, 1, api.Vec{0, 1})
	y := x
	y.Ops = []api.Op{{Kind: api.Counter, Text: "other", N: 44, Ref: mk(1, 1, 1)}}
	for _, c := range sound() {
		ask(t, "Ins", seq.Ins(c, y, 3, none(), "n"), seq.Ins(c, x, 3, none(), "n"))
		ask(t, "Del", seq.Del(c, y, 3, mk(1, 1, 1)), seq.Del(c, x, 3, mk(1, 1, 1)))
		ask(t, "Clear", seq.Clear(c, y, 3), seq.Clear(c, x, 3))
	}
}

// R1, R7: numbers at the ends of what there is lead to answers, and nothing comes round.
func TestExtremes(t *testing.T) {
	ends := []int{math.MinInt, math.MinInt + 1, -1, 0, 1, math.MaxInt - 1, math.MaxInt}
	l := []api.Mark{mk(math.MinInt, math.MinInt, math.MaxInt), mk(0, 0, 1), mk(1, math.MinInt, 1), mk(1, math.MaxInt, math.MaxInt), mk(math.MaxInt, math.MaxInt, math.MaxInt)}
	c := line()
	for k, m := range l {
		c.Elems = append(c.Elems, el(m, ends[k*3%len(ends)], none(), string(rune('a'+k)), l[k:]...))
	}
	c.Elems[1].Gone, c.Elems[2].Gone, c.Elems[4].Gone = nil, nil, nil
	c.Elems[2].Ref, c.Elems[3].Ref = l[3], l[4]
	for _, p := range ends {
		for _, s := range ends {
			x := tx(p, s, api.Vec{p, s, p, s, p, s, p, s, p, s, p, s, p})
			for _, i := range ends {
				for _, time := range ends {
					x.Time = time
					got := seq.Ins(c, x, i, l[3], "n")
					askCheck(t, got, true)
					askPlain(t, got)
				}
				for _, ref := range l {
					askCheck(t, seq.Del(c, x, i, ref), true)
				}
				askCheck(t, seq.Clear(c, x, i), true)
			}
			ask(t, "Fold", seq.Fold(c, x.Deps), line(foldPlain(c.Elems, x.Deps)...))
		}
	}
}
