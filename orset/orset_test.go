package orset_test

import (
	"fmt"
	"math"
	"math/rand"
	"reflect"
	"slices"
	"strings"
	"testing"

	"plexus/api"
	"plexus/ops"
	"plexus/orset"
	"plexus/vec"
)

// textMost is how many bytes a text has at most, as the document has it.
const textMost = 64

// mk answers a Mark.
func mk(peer int, seq int, index int) api.Mark {
	return api.Mark{Dot: api.Dot{Peer: peer, Seq: seq}, Index: index}
}

// mem answers a Member that ops of these marks added.
func mem(text string, l ...api.Mark) api.Member {
	return api.Member{Text: text, Marks: l}
}

// old answers a Member with Base, and with these marks.
func old(text string, l ...api.Mark) api.Member {
	return api.Member{Text: text, Base: true, Marks: l}
}

// set answers the set of these members, in that order.
func set(l ...api.Member) api.Cell {
	return api.Cell{Kind: 4, Members: l}
}

// tx answers a transaction of that name that has seen deps.
func tx(peer int, seq int, deps api.Vec) api.Tx {
	return api.Tx{Dot: api.Dot{Peer: peer, Seq: seq}, Deps: deps}
}

// add adds s by the op of that mark, which has seen nothing.
func add(c api.Cell, m api.Mark, s string) api.Cell {
	return orset.Add(c, api.Tx{Dot: m.Dot}, m.Index, s)
}

// everything is a vector of all that there may be.
func everything() api.Vec {
	var v api.Vec
	for p := 1; p < len(v); p++ {
		v[p] = api.MaxSeq
	}
	return v
}

// several are members of several peers' additions: with Base alone, with marks alone, with both; some texts are the beginnings of others, or have bytes above 127.
func several() []api.Member {
	return []api.Member{
		old(""),
		mem("a", mk(1, 1, 1), mk(1, 1, 2), mk(2, 1, 1)),
		old("ab", mk(1, 2, 1), mk(12, 4, 3)),
		mem("b", mk(2, 1, 16)),
		mem("\x80", mk(1, 1, 3), mk(1, 2, 2), mk(2, 2, 1)),
		old("\xffz"),
	}
}

// sameMember tells whether two members are the same.
func sameMember(a api.Member, b api.Member) bool {
	return a.Text == b.Text && a.Base == b.Base && slices.Equal(a.Marks, b.Marks)
}

// sameElem tells whether two elements are the same.
func sameElem(a api.Elem, b api.Elem) bool {
	return a.Mark == b.Mark && a.Time == b.Time && a.Ref == b.Ref && a.Text == b.Text && slices.Equal(a.Gone, b.Gone)
}

// same tells whether two cells are the same; nil and empty lists are.
func same(a api.Cell, b api.Cell) bool {
	lists := slices.Equal(a.Amounts, b.Amounts) && slices.Equal(a.Writes, b.Writes) && slices.EqualFunc(a.Elems, b.Elems, sameElem)
	return lists && a.Kind == b.Kind && a.Base == b.Base && slices.EqualFunc(a.Members, b.Members, sameMember)
}

// ask holds an answer against the cell that is wanted.
func ask(t *testing.T, what string, got api.Cell, want api.Cell) {
	t.Helper()
	if !same(got, want) {
		t.Errorf("%s: %+v, want %+v", what, got, want)
	}
}

// askRead holds what is read of a set against the texts that are wanted.
func askRead(t *testing.T, c api.Cell, texts ...string) {
	t.Helper()
	got := orset.Read(c)
	if got.Kind != 4 || got.N != 0 || len(got.Fields) != 0 || !slices.Equal(got.Texts, texts) {
		t.Errorf("Read(%+v) = %+v, want %q", c, got, texts)
	}
}

// askCheck asks Check.
func askCheck(t *testing.T, c api.Cell, want bool) {
	t.Helper()
	if got := orset.Check(c); got != want {
		t.Errorf("Check(%+v) = %v, want %v", c, got, want)
	}
}

// wrongMembers are lists of members that no set has: out of order, of one text twice, too long, added by nobody, or with marks that may not be; at every place of a list.
func wrongMembers() [][]api.Member {
	m := mk(1, 1, 1)
	l := [][]api.Member{
		{mem("b", m), mem("a", m)}, {old("b"), old("a")}, {old("ab"), old("a")}, {old("a"), old("")}, {old("\x80"), old("z")}, {old("ä"), old("z")},
		{mem("a", m), mem("a", m)}, {old("a"), old("a")}, {old("a"), mem("a", m)}, {mem("a", m), mem("a", mk(2, 1, 1))}, {old(""), old("")},
	}
	spoilt := func(k int, spoil func(*api.Member)) {
		x := several()
		spoil(&x[k])
		l = append(l, x, x[k:k+1])
	}
	for k, x := range several() {
		for _, n := range []int{textMost + 1, textMost + 2, 1000} {
			// The text begins as it did, so that members rise still.
			spoilt(k, func(m *api.Member) { m.Text += strings.Repeat("\x00", n-len(m.Text)) })
		}
		for _, marks := range wrongMarks() {
			spoilt(k, func(m *api.Member) { m.Marks = marks })
			spoilt(k, func(m *api.Member) { m.Base, m.Marks = !m.Base, marks })
		}
		spoilt(k, func(m *api.Member) { m.Base, m.Marks = false, nil })
		spoilt(k, func(m *api.Member) { m.Base, m.Marks = false, []api.Mark{} })
		l = append(l, slices.Insert(several(), k, x))
		if k > 0 {
			y := several()
			y[k-1], y[k] = y[k], y[k-1]
			l = append(l, y)
		}
	}
	return l
}

// wrongMarks are lists of marks that no member has: that do not rise, of which two are one, with an Index below 1.
func wrongMarks() [][]api.Mark {
	return [][]api.Mark{
		{mk(2, 1, 1), mk(1, 1, 1)}, {mk(2, 1, 1), mk(1, 2, 2)}, {mk(1, 2, 1), mk(1, 1, 1)}, {mk(1, 2, 1), mk(1, 1, 2)}, {mk(1, 1, 2), mk(1, 1, 1)},
		{mk(1, 1, 1), mk(1, 1, 1)}, {mk(1, 1, 1), mk(2, 1, 1), mk(2, 1, 1)}, {mk(1, 1, 1), mk(3, 1, 1), mk(2, 1, 1)}, {mk(1, 1, 1), mk(2, 1, 1), mk(1, 1, 1)},
		{mk(1, 1, 0)}, {mk(1, 1, -1)}, {mk(1, 1, math.MinInt)}, {{}}, {mk(1, 1, 0), mk(1, 1, 1)}, {mk(1, 1, 1), mk(1, 2, 0)}, {mk(1, 1, 1), mk(1, 2, -1), mk(1, 3, 1)},
	}
}

// others are the lists of other kinds' cells.
func others() []api.Cell {
	m := mk(1, 1, 1)
	return []api.Cell{
		{Amounts: []api.Amount{{}}},
		{Amounts: []api.Amount{{Mark: m, N: 3}, {Mark: m}}},
		{Writes: []api.Write{{}}},
		{Writes: []api.Write{{Mark: m, Time: 3, Text: "w"}, {Mark: m}}},
		{Elems: []api.Elem{{}}},
		{Elems: []api.Elem{{Mark: m, Time: 2, Ref: m, Text: "x", Gone: []api.Mark{m}}, {Gone: []api.Mark{m, m}}}},
		{Amounts: []api.Amount{{Mark: m}}, Writes: []api.Write{{Mark: m}}, Elems: []api.Elem{{Mark: m, Gone: []api.Mark{m}}}},
	}
}

// wrong are cells that do not Check.
func wrong() []api.Cell {
	l := []api.Cell{{}, {Base: 5}}
	for _, kind := range []int{math.MinInt, -1, 0, api.Counter, api.Last, api.Many, api.Seq, api.Map, api.Roster, 8, math.MaxInt} {
		l = append(l, api.Cell{Kind: kind}, api.Cell{Kind: kind, Members: several()})
	}
	for _, base := range []int{-1, 1, math.MinInt, math.MaxInt} {
		l = append(l, api.Cell{Kind: api.Set, Base: base}, api.Cell{Kind: api.Set, Base: base, Members: several()})
	}
	for _, x := range wrongMembers() {
		l = append(l, set(x...))
	}
	for _, c := range others() {
		l = append(l, c)
		c.Kind = api.Set
		l = append(l, c)
		c.Members = several()
		l = append(l, c)
	}
	return l
}

// shapes are cells that Check, and of those that do not one of each shape.
func shapes() []api.Cell {
	l := append(sound(), api.Cell{}, api.Cell{Kind: api.Counter, Members: several()}, api.Cell{Kind: api.Set, Base: 1, Members: several()}, set(old("b", mk(1, 1, 1)), old("a", mk(1, 1, 1))), set(mem("a", wrongMarks()[0]...)))
	for _, c := range others() {
		c.Kind, c.Members = api.Set, several()
		l = append(l, c)
	}
	return l
}

// sound are cells that Check.
func sound() []api.Cell {
	return []api.Cell{
		set(), set(old("")), set(old("a")), set(mem("a", mk(1, 1, 1))), set(old("a", mk(1, 1, 1))), set(several()...), set(several()[1:4]...),
		set(mem(strings.Repeat("z", textMost), mk(12, api.MaxSeq, api.MaxOps))),
	}
}

// P10.1 to P10.3: the chapter's example, whichever comes first, and the same by one who has seen the addition.
func TestExample(t *testing.T) {
	a, blind, seer := tx(1, 1, api.Vec{}), tx(2, 1, api.Vec{}), tx(2, 1, api.Vec{0, 1})
	c := orset.Add(set(), a, 1, "a")
	ask(t, "Add", c, set(mem("a", mk(1, 1, 1))))
	askRead(t, orset.Del(c, blind, 1, "a"), "a")
	askRead(t, orset.Add(orset.Del(set(), blind, 1, "a"), a, 1, "a"), "a")
	askRead(t, orset.Del(c, seer, 1, "a"))
}

// P10.1: what may be: no member, one, several; empty lists are as nil ones.
func TestCheckOfSound(t *testing.T) {
	for _, c := range sound() {
		askCheck(t, c, true)
		c.Amounts, c.Writes, c.Elems = []api.Amount{}, []api.Write{}, []api.Elem{}
		askCheck(t, c, true)
		c.Amounts, c.Writes, c.Elems = make([]api.Amount, 0, 3), make([]api.Write, 0, 3), make([]api.Elem, 0, 3)
		askCheck(t, c, true)
	}
	askCheck(t, api.Cell{Kind: 4, Members: []api.Member{}}, true)
	askCheck(t, set(old("a", []api.Mark{}...)), true)
}

// P10.1: what may not: other kinds, a base, other lists, members that do not rise or may not be, marks that do not rise or may not be.
func TestCheckOfWrong(t *testing.T) {
	for _, c := range wrong() {
		askCheck(t, c, false)
	}
}

// P10.1: of all kinds Set alone is a set, and its Base is 0.
func TestCheckKindAndBase(t *testing.T) {
	for kind := -2; kind <= 9; kind++ {
		for base := -2; base <= 2; base++ {
			askCheck(t, api.Cell{Kind: kind, Base: base}, kind == 4 && base == 0)
			askCheck(t, api.Cell{Kind: kind, Base: base, Members: several()}, kind == 4 && base == 0)
		}
	}
}

// P10.1: a Text has up to MaxText bytes, whatever they are.
func TestCheckText(t *testing.T) {
	wide := strings.Repeat("ä", textMost/2)
	for _, m := range []api.Member{old(""), mem("", mk(1, 1, 1)), old("", mk(1, 1, 1))} {
		for _, s := range []string{"", "x", "\x00", "\xff", strings.Repeat("x", 63), strings.Repeat("x", 64), strings.Repeat("\xfe", 64), wide} {
			m.Text = s
			askCheck(t, set(m), true)
			askCheck(t, set(m, old("\xff\xff")), true)
		}
		for _, s := range []string{strings.Repeat("x", 65), strings.Repeat("\x00", 65), wide + "x", strings.Repeat("ä", 33), strings.Repeat("x", 1000)} {
			m.Text = s
			askCheck(t, set(m), false)
			askCheck(t, set(m, old("\xff\xff")), false)
			askCheck(t, set(old(""), m), false)
		}
	}
}

// P10.1: an Index goes from 1 on, at each place of a list of marks, with Base and without.
func TestCheckIndex(t *testing.T) {
	for _, index := range []int{math.MinInt, -1, 0, 1, 2, api.MaxOps, api.MaxOps + 1, math.MaxInt} {
		for _, l := range [][]api.Mark{{mk(1, 1, index)}, {mk(1, 1, index), mk(1, 2, 1)}, {mk(1, 0, 1), mk(1, 1, index)}, {mk(0, 0, 1), mk(1, 1, index), mk(2, 0, 1)}} {
			askCheck(t, set(mem("a", l...)), index >= 1)
			askCheck(t, set(old("a", l...)), index >= 1)
			askCheck(t, set(old(""), mem("a", l...), old("b")), index >= 1)
		}
	}
}

// P10.1: a member has Base, or Marks, or both; with neither it may not be.
func TestCheckAdded(t *testing.T) {
	m := mk(1, 1, 1)
	for _, c := range []struct {
		member api.Member
		want   bool
	}{{old("a"), true}, {mem("a", m), true}, {old("a", m), true}, {mem("a"), false}} {
		askCheck(t, set(c.member), c.want)
		askCheck(t, set(old(""), c.member), c.want)
		askCheck(t, set(c.member, old("b")), c.want)
	}
}

// P10.1: nothing is asked of a Dot, but that marks rise: the zero Dot is an open transaction's.
func TestCheckAnyDot(t *testing.T) {
	askCheck(t, set(mem("a", mk(0, 0, 1))), true)
	askCheck(t, set(mem("a", mk(0, 0, 1), mk(1, 1, 1))), true)
	askCheck(t, set(mem("a", mk(math.MinInt, math.MaxInt, 1), mk(-1, 3, 1), mk(13, math.MinInt, 2), mk(13, -1, 1), mk(math.MaxInt, 0, 1))), true)
	askCheck(t, set(mem("a", mk(1, 1, 1)), mem("b", mk(1, 1, 1))), true)
}

// smallMarks are all marks of three peers, up to two transactions and two ops of each, rising.
func smallMarks() []api.Mark {
	var l []api.Mark
	for k := range 12 {
		l = append(l, mk(1+k>>2, 1+k>>1&1, 1+k&1))
	}
	return l
}

// P10.1: of all lists of up to three of some texts, and of some marks, just those that rise Check.
func TestCheckRising(t *testing.T) {
	texts := []string{"", "\x00", "A", "a", "a\x00", "aa", "b", "\x7f", "\x80", "ä", "\xff"}
	for a, x := range texts {
		for b, y := range texts {
			askCheck(t, set(old(x), mem(y, mk(1, 1, 1))), a < b)
			for c, z := range texts {
				askCheck(t, set(old(x), old(y), old(z)), a < b && b < c)
			}
		}
	}
	l := smallMarks()
	for a, x := range l {
		for b, y := range l {
			askCheck(t, set(mem("a", x, y)), a < b)
			for c, z := range l {
				askCheck(t, set(old("a", x, y, z)), a < b && b < c)
			}
		}
	}
}

// P10.1: calls of one that does not Check answer it as it is, Read the zero Value.
func TestCallsOfWrong(t *testing.T) {
	for _, c := range wrong() {
		for _, x := range []api.Tx{tx(3, 9, everything()), tx(3, 9, api.Vec{}), tx(1, 1, api.Vec{}), {}} {
			for i := -1; i <= 2; i++ {
				for _, s := range []string{"", "a", "n", strings.Repeat("x", 65)} {
					ask(t, "Add", orset.Add(c, x, i, s), c)
					ask(t, "Del", orset.Del(c, x, i, s), c)
				}
				ask(t, "Clear", orset.Clear(c, x, i), c)
			}
			ask(t, "Fold", orset.Fold(c, x.Deps), c)
		}
		if got := orset.Read(c); got.Kind != 0 || got.N != 0 || len(got.Texts) != 0 || len(got.Fields) != 0 {
			t.Errorf("Read(%+v) = %+v", c, got)
		}
	}
}

// P10.2: Add of a text that is not there makes a member: at the front, in the middle, at the end, or where there is none.
func TestAddMakesMembers(t *testing.T) {
	m := mk(3, 1, 2)
	ask(t, "none", add(set(), m, "n"), set(mem("n", m)))
	for k, x := range several() {
		rest := slices.Delete(several(), k, k+1)
		ask(t, "one more", add(set(rest...), m, x.Text), set(slices.Insert(rest, k, mem(x.Text, m))...))
	}
	for at, s := range map[int]string{1: "\x00", 2: "a\x00", 3: "abc", 4: "b0", 5: "\x80\x00", 6: "\xffzz"} {
		ask(t, "among several", add(set(several()...), m, s), set(slices.Insert(several(), at, mem(s, m))...))
	}
	ask(t, "ahead of all", add(set(old("a")), m, ""), set(mem("", m), old("a")))
}

// P10.2: Add of a text that is there puts the mark where it belongs: to the front, the middle, the end, or where there is none; Base stays as it is, and so do the others.
func TestAddPutsMarks(t *testing.T) {
	l := []api.Mark{mk(1, 2, 2), mk(1, 2, 4), mk(2, 1, 1)}
	for _, c := range []struct {
		mark api.Mark
		at   int
	}{
		{mk(0, 0, 1), 0}, {mk(1, 1, 9), 0}, {mk(1, 2, 1), 0}, {mk(1, 2, 3), 1}, {mk(1, 2, 5), 2},
		{mk(1, 3, 1), 2}, {mk(2, 0, 9), 2}, {mk(2, 1, 2), 3}, {mk(2, 2, 1), 3}, {mk(13, 1, 1), 3},
	} {
		want := slices.Insert(slices.Clone(l), c.at, c.mark)
		ask(t, "marks alone", add(set(mem("a", l...)), c.mark, "a"), set(mem("a", want...)))
		ask(t, "both", add(set(old(""), old("a", l...), old("b")), c.mark, "a"), set(old(""), old("a", want...), old("b")))
		ask(t, "Base alone", add(set(old("a"), old("b")), c.mark, "a"), set(old("a", c.mark), old("b")))
	}
}

// P10.2: Add of a mark that is there already changes nothing, whatever it has seen; to another text it is added all the same.
func TestAddAgain(t *testing.T) {
	c := set(several()...)
	for _, m := range several() {
		for _, x := range m.Marks {
			for _, deps := range []api.Vec{{}, {0, 1}, {0, 2, 1}, everything()} {
				ask(t, "again", orset.Add(c, tx(x.Dot.Peer, x.Dot.Seq, deps), x.Index, m.Text), c)
			}
			ask(t, "another text", add(c, x, "n"), set(slices.Insert(several(), 4, mem("n", x))...))
		}
	}
	one := add(set(), mk(1, 1, 1), "a")
	ask(t, "twice", add(one, mk(1, 1, 1), "a"), one)
}

// P10.2: Add takes nothing away, whatever it has seen, and asks nothing of t but its Dot.
func TestAddTakesNothing(t *testing.T) {
	x := api.Tx{Dot: api.Dot{Peer: 12, Seq: 9}, Deps: everything(), Time: -3, Ops: []api.Op{{Kind: api.Counter, Text: "other", N: 44}}}
	want := several()
	want[2].Marks = append(want[2].Marks, mk(12, 9, 7))
	ask(t, "Add", orset.Add(set(several()...), x, 7, "ab"), set(want...))
	ask(t, "a zero tx", orset.Add(set(), api.Tx{}, 2, "n"), set(mem("n", mk(0, 0, 2))))
}

// P10.2: s has up to MaxText bytes; of one beyond it is as it is.
func TestTexts(t *testing.T) {
	wide := strings.Repeat("ä", textMost/2)
	seer, m := tx(4, 1, everything()), mk(4, 1, 1)
	for _, s := range []string{"", "x", "\x00\xff", strings.Repeat("x", 63), strings.Repeat("x", 64), strings.Repeat("\xff", 64), wide} {
		ask(t, "Add within", add(set(), m, s), set(mem(s, m)))
		ask(t, "Del within", orset.Del(set(mem(s, mk(1, 1, 1))), seer, 1, s), set())
	}
	for _, s := range []string{strings.Repeat("x", 65), wide + "x", strings.Repeat("x", 1000)} {
		for _, c := range append(sound(), set(old(s[:64]))) {
			ask(t, "Add beyond", orset.Add(c, seer, 1, s), c)
			ask(t, "Del beyond", orset.Del(c, seer, 1, s), c)
		}
	}
}

// P10.2: i goes from 1 on, of Add, Del and Clear; below that it is as it is, and Base stays too.
func TestIndex(t *testing.T) {
	seer := tx(4, 1, everything())
	for _, c := range sound() {
		for _, i := range []int{0, -1, math.MinInt} {
			for _, s := range []string{"", "a", "ab", "n", strings.Repeat("z", 64)} {
				ask(t, "Add below", orset.Add(c, seer, i, s), c)
				ask(t, "Del below", orset.Del(c, seer, i, s), c)
			}
			ask(t, "Clear below", orset.Clear(c, seer, i), c)
		}
		for _, i := range []int{1, 2, api.MaxOps, api.MaxOps + 1, math.MaxInt} {
			want := set(append(slices.Clone(c.Members), mem("\xff\xff", mk(4, 1, i)))...)
			ask(t, "Add from 1 on", orset.Add(c, seer, i, "\xff\xff"), want)
			ask(t, "Clear from 1 on", orset.Clear(c, seer, i), set())
			ask(t, "Del from 1 on", orset.Del(set(old("a"), old("b", mk(1, 1, 1))), seer, i, "b"), set(old("a")))
		}
	}
}

// P10.2: Del by one who has seen none, some, all of the marks; Base goes, whoever it is; a member that has no mark left goes, and the others stay as they are.
func TestDel(t *testing.T) {
	l := []api.Mark{mk(1, 1, 1), mk(1, 2, 1), mk(2, 1, 1), mk(12, 4, 3)}
	for _, c := range []struct {
		deps api.Vec
		left []api.Mark
	}{
		{api.Vec{}, l},
		{api.Vec{9, 0, 0, 9, 9}, l},
		{api.Vec{0, 1}, l[1:]},
		{api.Vec{0, 2}, l[2:]},
		{api.Vec{0, 0, 1}, []api.Mark{l[0], l[1], l[3]}},
		{api.Vec{0, 1, 1}, []api.Mark{l[1], l[3]}},
		{api.Vec{0, 2, 1, 0, 0, 0, 0, 0, 0, 0, 0, 0, 3}, l[3:]},
		{api.Vec{0, 0, 0, 0, 0, 0, 0, 0, 0, 0, 0, 0, 4}, l[:3]},
		{api.Vec{0, 2, 1, 0, 0, 0, 0, 0, 0, 0, 0, 0, 4}, nil},
	} {
		var want []api.Member
		if len(c.left) > 0 {
			want = []api.Member{mem("b", c.left...)}
		}
		x := tx(5, 1, c.deps)
		ask(t, "marks alone", orset.Del(set(mem("b", l...)), x, 1, "b"), set(want...))
		ask(t, "both", orset.Del(set(old("b", l...)), x, 1, "b"), set(want...))
		want = slices.Concat([]api.Member{old("a", l...)}, want, []api.Member{mem("c", l...)})
		ask(t, "among others", orset.Del(set(old("a", l...), old("b", l...), mem("c", l...)), x, 1, "b"), set(want...))
		ask(t, "Base alone", orset.Del(set(old("a"), old("b"), old("c")), x, 1, "b"), set(old("a"), old("c")))
	}
}

// P10.2: Del of a text that is not there, of the beginning of one too, changes nothing.
func TestDelOfNone(t *testing.T) {
	seer := tx(5, 1, everything())
	for _, c := range sound() {
		for _, s := range []string{"\x00", "A", "aa", "abc", "n", "\x80\x80", "\xff", strings.Repeat("z", 63)} {
			ask(t, "Del", orset.Del(c, seer, 1, s), c)
		}
	}
}

// P10.2: Del and Clear by an op that has seen those ahead of it in its own transaction, and neither itself nor those behind.
func TestOwn(t *testing.T) {
	l := []api.Mark{mk(1, 1, 1), mk(2, 3, 1), mk(2, 3, 2), mk(2, 3, 3), mk(2, 4, 1)}
	none := tx(2, 3, api.Vec{})
	for _, c := range []struct {
		tx   api.Tx
		i    int
		left []api.Mark
	}{
		{none, 1, l},
		{none, 2, []api.Mark{l[0], l[2], l[3], l[4]}},
		{none, 3, []api.Mark{l[0], l[3], l[4]}},
		{none, 4, []api.Mark{l[0], l[4]}},
		{none, math.MaxInt, []api.Mark{l[0], l[4]}},
		{tx(2, 3, api.Vec{0, 1, 2}), 2, l[2:]},
		{tx(2, 3, api.Vec{0, 1, 4}), 1, nil},
	} {
		want := set()
		if len(c.left) > 0 {
			want = set(mem("a", c.left...))
		}
		ask(t, "Del", orset.Del(set(mem("a", l...)), c.tx, c.i, "a"), want)
		ask(t, "Clear", orset.Clear(set(old("a", l...)), c.tx, c.i), want)
	}
	open := set(mem("a", mk(0, 0, 1), mk(0, 0, 2)))
	ask(t, "an open one's", orset.Del(open, api.Tx{}, 2, "a"), set(mem("a", mk(0, 0, 2))))
	ask(t, "an open one's last", orset.Del(open, api.Tx{}, 3, "a"), set())
}

// P10.2: Clear by one who has seen none, some, all.
func TestClear(t *testing.T) {
	for _, c := range []struct {
		deps api.Vec
		left []api.Member
	}{
		{api.Vec{}, []api.Member{several()[1], mem("ab", mk(1, 2, 1), mk(12, 4, 3)), several()[3], several()[4]}},
		{api.Vec{0, 1}, []api.Member{mem("a", mk(2, 1, 1)), mem("ab", mk(1, 2, 1), mk(12, 4, 3)), several()[3], mem("\x80", mk(1, 2, 2), mk(2, 2, 1))}},
		{api.Vec{0, 1, 1}, []api.Member{mem("ab", mk(1, 2, 1), mk(12, 4, 3)), mem("\x80", mk(1, 2, 2), mk(2, 2, 1))}},
		{api.Vec{0, 2, 2}, []api.Member{mem("ab", mk(12, 4, 3))}},
		{api.Vec{0, 2, 2, 0, 0, 0, 0, 0, 0, 0, 0, 0, 4}, nil},
		{everything(), nil},
	} {
		x := tx(5, 1, c.deps)
		ask(t, "Clear", orset.Clear(set(several()...), x, 1), set(c.left...))
		ask(t, "Clear of none", orset.Clear(set(), x, 1), set())
		ask(t, "Clear of Base alone", orset.Clear(set(old(""), old("a")), x, 1), set())
	}
}

// P10.2: a Fold whose cut has none, some, all of the marks; a member that loses one has Base, and no other one gets it.
func TestFold(t *testing.T) {
	for _, c := range []struct {
		cut  api.Vec
		want []api.Member
	}{
		{api.Vec{}, several()},
		{api.Vec{9, 0, 0, 9, 9}, several()},
		{api.Vec{0, 1}, []api.Member{old(""), old("a", mk(2, 1, 1)), several()[2], several()[3], old("\x80", mk(1, 2, 2), mk(2, 2, 1)), old("\xffz")}},
		{api.Vec{0, 0, 1}, []api.Member{old(""), old("a", mk(1, 1, 1), mk(1, 1, 2)), several()[2], old("b"), several()[4], old("\xffz")}},
		{api.Vec{0, 2, 1}, []api.Member{old(""), old("a"), old("ab", mk(12, 4, 3)), old("b"), old("\x80", mk(2, 2, 1)), old("\xffz")}},
		{everything(), []api.Member{old(""), old("a"), old("ab"), old("b"), old("\x80"), old("\xffz")}},
	} {
		folded := orset.Fold(set(several()...), c.cut)
		ask(t, "Fold", folded, set(c.want...))
		ask(t, "Fold of what was folded", orset.Fold(folded, c.cut), folded)
		ask(t, "Fold of none", orset.Fold(set(), c.cut), set())
	}
}

// P10.2: a mark whose Dot no cut has stays, whatever the cut is.
func TestFoldLeavesOthers(t *testing.T) {
	c := set(mem("a", mk(-1, 1, 1), mk(0, 0, 1), mk(0, 1, 1), mk(1, -1, 1), mk(1, 0, 1), mk(13, 1, 1)))
	for _, n := range []int{0, 1, api.MaxSeq, -1, math.MaxInt, math.MinInt} {
		var cut api.Vec
		for p := range cut {
			cut[p] = n
		}
		ask(t, "Fold", orset.Fold(c, cut), c)
	}
}

// P10.2: Add, Del and Clear of what was folded: an Add leaves Base there, a Del and a Clear take it away, and what was added since stays.
func TestBehindFold(t *testing.T) {
	cut := api.Vec{0, 1}
	c := orset.Fold(set(mem("a", mk(1, 1, 1)), mem("b", mk(1, 1, 2), mk(2, 1, 1))), cut)
	ask(t, "Fold", c, set(old("a"), old("b", mk(2, 1, 1))))
	for _, deps := range []api.Vec{{}, cut} {
		x := tx(3, 1, deps)
		ask(t, "Del of Base alone", orset.Del(c, x, 1, "a"), set(old("b", mk(2, 1, 1))))
		ask(t, "Del of both", orset.Del(c, x, 1, "b"), set(old("a"), mem("b", mk(2, 1, 1))))
		ask(t, "Clear", orset.Clear(c, x, 1), set(mem("b", mk(2, 1, 1))))
		more := orset.Add(c, x, 1, "a")
		ask(t, "Add", more, set(old("a", mk(3, 1, 1)), old("b", mk(2, 1, 1))))
		ask(t, "Del behind Add", orset.Del(more, tx(4, 1, cut), 1, "a"), set(mem("a", mk(3, 1, 1)), old("b", mk(2, 1, 1))))
	}
	ask(t, "one who has seen all", orset.Clear(c, tx(3, 1, api.Vec{0, 1, 1}), 1), set())
}

// P10.2: Read answers the members' texts, in order, with Base or without.
func TestRead(t *testing.T) {
	askRead(t, set())
	askRead(t, set(old("")), "")
	askRead(t, set(mem("", mk(1, 1, 1))), "")
	askRead(t, set(old("a")), "a")
	askRead(t, set(mem("a", mk(1, 1, 1), mk(2, 1, 1))), "a")
	askRead(t, set(several()...), "", "a", "ab", "b", "\x80", "\xffz")
	c := set()
	for k, s := range []string{"\xff", "ä", "z", "\x80", "", "\x7f", "Z", "a\x00", "a", "ab"} {
		c = add(c, mk(1+k%3, 1+k, 1), s)
	}
	askRead(t, c, "", "Z", "a", "a\x00", "ab", "z", "\x7f", "\x80", "ä", "\xff")
	long := strings.Repeat("x", 63)
	askRead(t, add(add(add(set(), mk(1, 1, 1), long+"z"), mk(1, 1, 2), long+"y"), mk(1, 1, 3), long), long, long+"y", long+"z")
}

// smallSet has members of every small mark: one of all of them, one of each third.
func smallSet() api.Cell {
	l := []api.Member{mem("a", smallMarks()...), old("b"), mem("c"), old("d")}
	for k, m := range smallMarks() {
		l[1+k%3].Marks = append(l[1+k%3].Marks, m)
	}
	return set(l...)
}

// smallVecs are all vectors of three peers with 0 to 2 of each.
func smallVecs() []api.Vec {
	var l []api.Vec
	for k := range 27 {
		l = append(l, api.Vec{0, k % 3, k / 3 % 3, k / 9})
	}
	return l
}

// smallTxs are transactions of three peers that have seen each small vector.
func smallTxs() []api.Tx {
	var l []api.Tx
	for _, v := range smallVecs() {
		for k := range 9 {
			l = append(l, tx(1+k%3, 1+k/3, v))
		}
	}
	return l
}

// leaves answers what is left of members of which an op removes those of these texts, by the document's words.
func leaves(l []api.Member, x api.Tx, i int, texts ...string) api.Cell {
	c := set()
	for _, m := range l {
		if slices.Contains(texts, m.Text) {
			unseen := mem(m.Text)
			for _, mark := range m.Marks {
				if !ops.Before(mark, x, i) {
					unseen.Marks = append(unseen.Marks, mark)
				}
			}
			m = unseen
		}
		if m.Base || len(m.Marks) > 0 {
			c.Members = append(c.Members, m)
		}
	}
	return c
}

// P10.2: Del and Clear leave what ops' Before does not tell, of all small histories; Clear is Del of each member's.
func TestDelOfAllSmall(t *testing.T) {
	c := smallSet()
	for _, x := range smallTxs() {
		for i := 1; i <= 4; i++ {
			each := c
			for _, m := range c.Members {
				ask(t, "Del", orset.Del(c, x, i, m.Text), leaves(c.Members, x, i, m.Text))
				each = orset.Del(each, x, i, m.Text)
			}
			got := orset.Clear(c, x, i)
			ask(t, "Clear", got, leaves(c.Members, x, i, "a", "b", "c", "d"))
			ask(t, "Del of each", each, got)
		}
	}
}

// P10.2: Fold takes away what vec's Has tells, of all small cuts.
func TestFoldOfAllSmall(t *testing.T) {
	c := smallSet()
	for _, cut := range smallVecs() {
		want := set()
		for _, m := range c.Members {
			left := api.Member{Text: m.Text, Base: m.Base}
			for _, mark := range m.Marks {
				if vec.Has(cut, mark.Dot) {
					left.Base = true
				} else {
					left.Marks = append(left.Marks, mark)
				}
			}
			want.Members = append(want.Members, left)
		}
		ask(t, "Fold", orset.Fold(c, cut), want)
	}
}

// P10.1, P10.2: what calls make of one that Checks does Check, whatever they are given.
func TestCallsKeepCheck(t *testing.T) {
	for _, c := range sound() {
		for _, call := range calls() {
			askCheck(t, call(c), true)
		}
	}
}

// orders hands each order of a list, from its place k on, to visit.
func orders[T any](l []T, k int, visit func([]T)) {
	if k == len(l) {
		visit(l)
		return
	}
	for i := k; i < len(l); i++ {
		l[k], l[i] = l[i], l[k]
		orders(l, k+1, visit)
		l[k], l[i] = l[i], l[k]
	}
}

// deed is one op of a history: the transaction that it is of, its place, what it does, and to which text.
type deed struct {
	tx    api.Tx
	index int
	act   int
	text  string
}

// clears is the act of a deed that clears a set.
const clears = api.ActDrop

// done does a deed.
func (d deed) done(c api.Cell) api.Cell {
	switch d.act {
	case api.ActAdd:
		return orset.Add(c, d.tx, d.index, d.text)
	case api.ActDel:
		return orset.Del(c, d.tx, d.index, d.text)
	}
	return orset.Clear(c, d.tx, d.index)
}

// mark answers a deed's Mark.
func (d deed) mark() api.Mark {
	return api.Mark{Dot: d.tx.Dot, Index: d.index}
}

// sees tells whether a deed has seen another one.
func (d deed) sees(other deed) bool {
	return ops.Before(other.mark(), d.tx, d.index)
}

// removes tells whether a deed takes away what another one added.
func (d deed) removes(other deed) bool {
	return d.sees(other) && (d.act == clears || d.act == api.ActDel && d.text == other.text)
}

// defined answers the set of the additions, of deeds that were done, that none of them removes: the definition.
func defined(done []deed) api.Cell {
	c := set()
	for _, d := range done {
		if d.act != api.ActAdd || slices.ContainsFunc(done, func(o deed) bool { return o.removes(d) }) {
			continue
		}
		k := slices.IndexFunc(c.Members, func(m api.Member) bool { return m.Text == d.text })
		if k < 0 {
			c.Members, k = append(c.Members, mem(d.text)), len(c.Members)
		}
		c.Members[k].Marks = append(c.Members[k].Marks, d.mark())
	}
	for _, m := range c.Members {
		slices.SortFunc(m.Marks, byLess)
	}
	slices.SortFunc(c.Members, func(a api.Member, b api.Member) int { return strings.Compare(a.Text, b.Text) })
	return c
}

// byLess compares marks by ops' Less.
func byLess(a api.Mark, b api.Mark) int {
	if ops.Less(a, b) {
		return -1
	}
	if ops.Less(b, a) {
		return 1
	}
	return 0
}

// P10.3: every order of additions of several texts by several peers comes to one set.
func TestEveryOrder(t *testing.T) {
	l := []deed{
		{tx(1, 1, api.Vec{}), 1, api.ActAdd, "a"}, {tx(1, 1, api.Vec{}), 2, api.ActAdd, "b"}, {tx(2, 1, api.Vec{}), 1, api.ActAdd, "a"},
		{tx(2, 2, api.Vec{}), 1, api.ActAdd, ""}, {tx(3, 1, api.Vec{}), 4, api.ActAdd, "a"}, {tx(12, 1, api.Vec{}), 1, api.ActAdd, "ab"},
	}
	want := set(mem("", mk(2, 2, 1)), mem("a", mk(1, 1, 1), mk(2, 1, 1), mk(3, 1, 4)), mem("ab", mk(12, 1, 1)), mem("b", mk(1, 1, 2)))
	count := 0
	orders(l, 0, func(l []deed) {
		c := set()
		for _, d := range l {
			c = d.done(c)
		}
		ask(t, "in this order", c, want)
		count++
	})
	if count != 720 {
		t.Error(count, "orders")
	}
	askRead(t, want, "", "a", "ab", "b")
}

// P10.3: a removal that has seen one of several additions takes away that one, whenever the others come.
func TestEveryOrderWithRemovals(t *testing.T) {
	l := []deed{
		{tx(1, 1, api.Vec{}), 1, api.ActAdd, "a"}, {tx(2, 1, api.Vec{}), 1, api.ActAdd, "a"}, {tx(3, 1, api.Vec{}), 1, api.ActAdd, "b"},
		{tx(4, 1, api.Vec{0, 1}), 1, api.ActDel, "a"}, {tx(5, 1, api.Vec{0, 0, 0, 1}), 1, clears, ""}, {tx(6, 1, api.Vec{0, 1, 1}), 1, api.ActDel, "b"},
	}
	count := 0
	orders(l, 0, func(l []deed) {
		c := set()
		for k, d := range l {
			if !ready(d, l, l[:k]) {
				return
			}
			c = d.done(c)
		}
		ask(t, "in this order", c, set(mem("a", mk(2, 1, 1))))
		count++
	})
	if count != 75 {
		t.Error(count, "orders")
	}
}

// history answers deeds of three peers: each is of a transaction that has seen all that its peer had, and what those had seen.
func history(r *rand.Rand, n int) []deed {
	acts := []int{api.ActAdd, api.ActAdd, api.ActAdd, api.ActDel, api.ActDel, clears}
	var l []deed
	var has [4]api.Vec
	for range n {
		p := 1 + r.Intn(3)
		for q := range has {
			if r.Intn(3) == 0 {
				has[p] = vec.Join(has[p], has[q])
			}
		}
		x := tx(p, has[p][p]+1, has[p])
		for i := range 1 + r.Intn(2) {
			l = append(l, deed{x, i + 1, acts[r.Intn(len(acts))], string(rune('a' + r.Intn(3)))})
		}
		has[p][p]++
	}
	return l
}

// ready tells whether all that a deed has seen, of a history, is among those that were done.
func ready(d deed, all []deed, done []deed) bool {
	for _, o := range all {
		if d.sees(o) && !slices.ContainsFunc(done, func(x deed) bool { return x.mark() == o.mark() }) {
			return false
		}
	}
	return true
}

// cutOf answers a cut that all that is to come has seen: all that there may be, if nothing is.
func cutOf(left []deed) api.Vec {
	cut := everything()
	for _, d := range left {
		cut = vec.Meet(cut, d.tx.Deps)
	}
	return cut
}

// P10.3: many histories, done in many orders, each op behind all that it has seen: what is there is what somebody added and nobody who has seen that removed. One that is folded in between, by what all that is to come has seen, reads the same, then and later.
func TestHistories(t *testing.T) {
	for seed := range int64(200) {
		r := rand.New(rand.NewSource(seed))
		all := history(r, 2+r.Intn(10))
		for range 8 {
			plain, folded, left, done := set(), set(), slices.Clone(all), []deed{}
			for len(left) > 0 {
				k := r.Intn(len(left))
				d := left[k]
				if !ready(d, all, done) {
					continue
				}
				done, left = append(done, d), slices.Delete(left, k, k+1)
				plain, folded = d.done(plain), d.done(folded)
				ask(t, "so far", plain, defined(done))
				if r.Intn(3) == 0 {
					folded = orset.Fold(folded, cutOf(left))
				}
				askRead(t, folded, orset.Read(plain).Texts...)
			}
		}
	}
}

// P10.3: folding changes nothing that is read, by any cut.
func TestFoldReadsTheSame(t *testing.T) {
	cuts := append(smallVecs(), everything(), api.Vec{-1, -1, -1}, api.Vec{9, math.MaxInt, math.MinInt})
	for _, c := range append(sound(), smallSet()) {
		for _, cut := range cuts {
			askRead(t, orset.Fold(c, cut), orset.Read(c).Texts...)
		}
	}
}

// P10.3: folding by one cut and then another one is folding by both; an op that has seen the cut removes the same, whether it was folded ahead or not.
func TestFoldAndLater(t *testing.T) {
	c := smallSet()
	for _, cut := range smallVecs() {
		folded := orset.Fold(c, cut)
		for _, more := range smallVecs() {
			ask(t, "folded", orset.Fold(folded, more), orset.Fold(c, vec.Join(cut, more)))
		}
		for _, x := range smallTxs() {
			if !vec.Leq(cut, x.Deps) {
				continue
			}
			ask(t, "cleared", orset.Clear(folded, x, 1), orset.Clear(c, x, 1))
			for _, m := range c.Members {
				ask(t, "removed", orset.Del(folded, x, 1, m.Text), orset.Fold(orset.Del(c, x, 1, m.Text), cut))
			}
		}
	}
}

// account is a plain account of a set: its marks, each with its text, and the texts with Base.
type account struct {
	marks map[string]map[api.Mark]bool
	base  map[string]bool
}

// remove takes away, of the account, the marks of a text that go.
func (a account) remove(s string, goes func(api.Mark) bool) int {
	count := len(a.marks[s])
	for m := range a.marks[s] {
		if goes(m) {
			delete(a.marks[s], m)
		}
	}
	return count - len(a.marks[s])
}

// cell answers the set that an account tells of.
func (a account) cell() api.Cell {
	c := set()
	for _, s := range []string{"", "a", "aa", "b", "\xff"} {
		m := api.Member{Text: s, Base: a.base[s]}
		for mark := range a.marks[s] {
			m.Marks = append(m.Marks, mark)
		}
		slices.SortFunc(m.Marks, byLess)
		if m.Base || len(m.Marks) > 0 {
			c.Members = append(c.Members, m)
		}
	}
	return c
}

// P10.2: many calls, one behind another, in no order of what was seen, held against a plain account.
func TestAccount(t *testing.T) {
	texts := []string{"", "a", "aa", "b", "\xff"}
	for seed := range int64(60) {
		r := rand.New(rand.NewSource(seed))
		c, a := set(), account{map[string]map[api.Mark]bool{}, map[string]bool{}}
		for _, s := range texts {
			a.marks[s] = map[api.Mark]bool{}
		}
		for range 200 {
			x, i, s := tx(1+r.Intn(4), 1+r.Intn(4), api.Vec{0, r.Intn(4), r.Intn(4), r.Intn(4), r.Intn(4)}), 1+r.Intn(3), texts[r.Intn(5)]
			seen := func(m api.Mark) bool { return m.Dot == x.Dot && m.Index < i || m.Dot.Seq <= x.Deps[m.Dot.Peer] }
			switch r.Intn(14) {
			case 0:
				c = orset.Clear(c, x, i)
				for _, each := range texts {
					a.remove(each, seen)
				}
				clear(a.base)
			case 1:
				c = orset.Fold(c, x.Deps)
				for _, each := range texts {
					a.base[each] = a.remove(each, func(m api.Mark) bool { return m.Dot.Seq <= x.Deps[m.Dot.Peer] }) > 0 || a.base[each]
				}
			case 2, 3, 4:
				c = orset.Del(c, x, i, s)
				a.remove(s, seen)
				a.base[s] = false
			default:
				c = orset.Add(c, x, i, s)
				a.marks[s][api.Mark{Dot: x.Dot, Index: i}] = true
			}
			ask(t, "so far", c, a.cell())
		}
	}
}

// calls are calls of each function that answers a cell.
func calls() []func(api.Cell) api.Cell {
	var l []func(api.Cell) api.Cell
	for _, deps := range []api.Vec{{}, {0, 1}, {0, 2, 1}, everything(), {9, 1, math.MaxInt, -4, 1, 1, 1, 1, 1, 1, 1, 1, math.MinInt}} {
		for _, x := range []api.Tx{tx(1, 1, deps), tx(13, 1, deps), {Deps: deps}} {
			for _, i := range []int{-1, 0, 1, 2, math.MaxInt} {
				l = append(l, func(c api.Cell) api.Cell { return orset.Clear(c, x, i) })
				for _, s := range []string{"", "a", "n", strings.Repeat("x", 65)} {
					l = append(l, func(c api.Cell) api.Cell { return orset.Add(c, x, i, s) })
					l = append(l, func(c api.Cell) api.Cell { return orset.Del(c, x, i, s) })
				}
			}
		}
		l = append(l, func(c api.Cell) api.Cell { return orset.Fold(c, deps) })
	}
	return l
}

// deep answers a value that is the same, of new memory, each list with some room behind its end.
func deep(v reflect.Value) reflect.Value {
	made := v
	switch v.Kind() {
	case reflect.Slice:
		made = reflect.MakeSlice(v.Type(), v.Len(), v.Len()+3)
		for k := range v.Len() {
			made.Index(k).Set(deep(v.Index(k)))
		}
	case reflect.Struct:
		made = reflect.New(v.Type()).Elem()
		for k := range v.NumField() {
			made.Field(k).Set(deep(v.Field(k)))
		}
	}
	return made
}

// roomy answers a cell that is the same, of new memory, with room behind its lists' ends.
func roomy(c api.Cell) api.Cell {
	return deep(reflect.ValueOf(c)).Interface().(api.Cell)
}

// lists answers all lists of a value, inner ones too, each with the room behind its end.
func lists(v reflect.Value) []reflect.Value {
	var all []reflect.Value
	switch v.Kind() {
	case reflect.Slice:
		v = v.Slice(0, v.Cap())
		all = append(all, v)
		for k := range v.Len() {
			all = append(all, lists(v.Index(k))...)
		}
	case reflect.Struct:
		for k := range v.NumField() {
			all = append(all, lists(v.Field(k))...)
		}
	}
	return all
}

// image tells all that a value's lists hold, and the room behind their ends.
func image(v any) string {
	var b strings.Builder
	for _, l := range lists(reflect.ValueOf(v)) {
		fmt.Fprintf(&b, "%+v\n", l)
	}
	return b.String()
}

// share tells whether two lists have memory in common.
func share(a reflect.Value, b reflect.Value) bool {
	size := func(v reflect.Value) uintptr { return uintptr(v.Cap()) * v.Type().Elem().Size() }
	return size(a) > 0 && size(b) > 0 && a.Pointer() < b.Pointer()+size(b) && b.Pointer() < a.Pointer()+size(a)
}

// askApart asks whether no two of all these values' lists have memory in common.
func askApart(t *testing.T, values ...any) {
	t.Helper()
	var all []reflect.Value
	for _, v := range values {
		all = append(all, lists(reflect.ValueOf(v))...)
	}
	for k, a := range all {
		for _, b := range all[:k] {
			if share(a, b) {
				t.Fatalf("%+v and %+v share memory, of %+v", a, b, values)
			}
		}
	}
}

// R3: an argument is as it was behind each call, its members' marks and the room behind its lists' ends too; an answer shares no memory with it, nor with another answer, and no two of its lists do.
func TestArgumentsAndAnswers(t *testing.T) {
	for _, c := range shapes() {
		given := roomy(c)
		was := image(given)
		for _, call := range calls() {
			first, second := call(given), call(given)
			ask(t, "the argument", given, c)
			ask(t, "the other answer", second, first)
			if image(given) != was {
				t.Fatalf("the room behind: %s, was %s", image(given), was)
			}
			askApart(t, given, first, second)
		}
	}
}

// R3: two members that are handed in with one list of marks are answered with two.
func TestOneListTwice(t *testing.T) {
	marks := []api.Mark{mk(1, 1, 1), mk(2, 1, 1)}
	given := set(mem("a", marks...), mem("b", marks...))
	for _, call := range calls() {
		askApart(t, call(given), marks)
		ask(t, "the argument", given, set(mem("a", mk(1, 1, 1), mk(2, 1, 1)), mem("b", mk(1, 1, 1), mk(2, 1, 1))))
	}
	ask(t, "Del of one", orset.Del(given, tx(3, 1, api.Vec{0, 1}), 1, "a"), set(mem("a", mk(2, 1, 1)), mem("b", marks...)))
	ask(t, "Fold", orset.Fold(given, api.Vec{0, 1}), set(old("a", mk(2, 1, 1)), old("b", mk(2, 1, 1))))
}

// R3: Check and Read change nothing, and what Read answers is the caller's own; a transaction handed in is as it was.
func TestNothingElseIsChanged(t *testing.T) {
	for _, c := range append(sound(), wrong()...) {
		given := roomy(c)
		was := image(given)
		orset.Check(given)
		askApart(t, given, orset.Read(given), orset.Read(given))
		ask(t, "the argument", given, c)
		if image(given) != was {
			t.Errorf("the room behind: %s, was %s", image(given), was)
		}
	}
	x := api.Tx{Dot: api.Dot{Peer: 1, Seq: 1}, Ops: make([]api.Op, 1, 3)}
	x.Ops[0] = api.Op{Kind: api.Set, Key: "k", Act: api.ActAdd, Text: "a"}
	was := image(x)
	c := orset.Add(set(several()...), x, 1, "a")
	orset.Clear(orset.Del(c, x, 2, "a"), x, 3)
	if image(x) != was {
		t.Error("ops", x.Ops)
	}
}

// R1, R7: numbers at the ends of what there is lead to answers, and nothing comes round.
func TestExtremes(t *testing.T) {
	ends := []int{math.MinInt, math.MinInt + 1, -1, 0, 1, math.MaxInt - 1, math.MaxInt}
	marks := []api.Mark{mk(math.MinInt, math.MinInt, math.MaxInt), mk(0, 0, 1), mk(1, math.MinInt, 1), mk(1, math.MaxInt, math.MaxInt), mk(math.MaxInt, math.MaxInt, math.MaxInt)}
	c := set(mem("a", marks...), old("b"))
	for _, p := range ends {
		for _, s := range ends {
			x := tx(p, s, api.Vec{p, s, p, s, p, s, p, s, p, s, p, s, p})
			for _, i := range ends {
				askCheck(t, orset.Add(c, x, i, "a"), true)
				if i >= 1 {
					ask(t, "Clear", orset.Clear(c, x, i), leaves(c.Members, x, i, "a", "b"))
					ask(t, "Del", orset.Del(c, x, i, "a"), leaves(c.Members, x, i, "a"))
				}
			}
			askRead(t, orset.Fold(c, x.Deps), "a", "b")
		}
	}
}

// R8: the same call answers the same, in order, however often it is made, of many members too.
func TestTheSameAgain(t *testing.T) {
	c := set()
	for k := range 300 {
		c = add(c, mk(1+k%12, 1+k, 1), string([]byte{byte(k * 7), byte(k * 11 % 5)}))
	}
	if !orset.Check(c) || len(c.Members) != 300 {
		t.Fatal(len(c.Members), "members")
	}
	x := tx(1, 500, api.Vec{0, 100, 200, 0, 300})
	for range 50 {
		ask(t, "Clear", orset.Clear(c, x, 1), leaves(c.Members, x, 1, orset.Read(c).Texts...))
		ask(t, "Add", add(c, mk(1, 1, 1), string([]byte{0, 0})), c)
	}
}
