package model_test

import (
	"fmt"
	"math"
	"slices"
	"strings"
	"testing"

	"plexus/api"
	"plexus/model"
)

// mk answers a Mark.
func mk(peer int, seq int, index int) api.Mark {
	return api.Mark{Dot: api.Dot{Peer: peer, Seq: seq}, Index: index}
}

// tx answers the first transaction of a peer, of that time, that has seen deps, with these ops.
func tx(peer int, time int, deps api.Vec, l ...api.Op) api.Tx {
	return nth(peer, 1, time, deps, l...)
}

// nth answers the seq-th transaction of a peer likewise.
func nth(peer int, seq int, time int, deps api.Vec, l ...api.Op) api.Tx {
	return api.Tx{Dot: api.Dot{Peer: peer, Seq: seq}, Time: time, Deps: deps, Ops: l}
}

// seen answers a vector of the first transactions of these peers.
func seen(peers ...int) api.Vec {
	var v api.Vec
	for _, p := range peers {
		v[p] = 1
	}
	return v
}

// add answers an op that adds to the Counter k.
func add(n int) api.Op {
	return api.Op{Kind: 1, Key: "k", Act: api.ActAdd, N: n}
}

// put answers an op that writes to the register k of a kind.
func put(kind int, text string) api.Op {
	return api.Op{Kind: kind, Key: "k", Act: api.ActPut, Text: text}
}

// enter answers an op that adds to the Set k.
func enter(text string) api.Op {
	return api.Op{Kind: 4, Key: "k", Act: api.ActAdd, Text: text}
}

// leave answers an op that takes away from the Set k.
func leave(text string) api.Op {
	return api.Op{Kind: 4, Key: "k", Act: api.ActDel, Text: text}
}

// ins answers an op that puts an element into the Seq k, behind ref.
func ins(ref api.Mark, text string) api.Op {
	return api.Op{Kind: 5, Key: "k", Act: api.ActIns, Ref: ref, Text: text}
}

// cut answers an op that takes an element out of the Seq k.
func cut(ref api.Mark) api.Op {
	return api.Op{Kind: 5, Key: "k", Act: api.ActDel, Ref: ref}
}

// roster answers an op of the Roster.
func roster(act int, n int) api.Op {
	return api.Op{Kind: 7, Act: act, N: n}
}

// drop answers an op that drops a field of the Map k.
func drop(name string, inner int) api.Op {
	return api.Op{Kind: 6, Key: "k", Field: name, Inner: inner, Act: api.ActDrop}
}

// in answers an op upon a leaf as one upon that in a field of the Map of its key.
func in(name string, o api.Op) api.Op {
	o.Kind, o.Field, o.Inner = 6, name, o.Kind
	return o
}

// of answers an op as one upon the object of another key.
func of(key string, o api.Op) api.Op {
	o.Key = key
	return o
}

// number answers a Counter's value.
func number(n int) api.Value {
	return api.Value{Kind: 1, N: n}
}

// words answers the value of a leaf with texts.
func words(kind int, l ...string) api.Value {
	return api.Value{Kind: kind, Texts: l}
}

// named answers a field's value with its name.
func named(name string, v api.Value) api.Named {
	return api.Named{Name: name, Value: v}
}

// mapOf answers a Map's value.
func mapOf(l ...api.Named) api.Value {
	return api.Value{Kind: 6, Fields: l}
}

// same tells whether two values are the same; nil and empty lists are.
func same(a api.Value, b api.Value) bool {
	alike := func(a api.Named, b api.Named) bool { return a.Name == b.Name && same(a.Value, b.Value) }
	return a.Kind == b.Kind && a.N == b.N && slices.Equal(a.Texts, b.Texts) && slices.EqualFunc(a.Fields, b.Fields, alike)
}

// askRead asks Read.
func askRead(t *testing.T, what string, l []api.Tx, kind int, key string, want api.Value) {
	t.Helper()
	if got := model.Read(l, kind, key); !same(got, want) {
		t.Errorf("%s: Read(%+v, %d, %q) = %+v, want %+v", what, l, kind, key, got, want)
	}
}

// askCheck asks Check.
func askCheck(t *testing.T, what string, l []api.Tx, want bool) {
	t.Helper()
	if got := model.Check(l); got != want {
		t.Errorf("%s: Check(%+v) = %v, want %v", what, l, got, want)
	}
}

// scene is transactions upon the leaf k, and what is to be read of it.
type scene struct {
	what string
	l    []api.Tx
	want api.Value
}

// askScenes asks each scene: of the object k; of the field f of the Map k, upon which all of it is done likewise; of both, where others do things beside it.
func askScenes(t *testing.T, l []scene) {
	t.Helper()
	for _, s := range l {
		askCheck(t, s.what, s.l, true)
		askRead(t, s.what, s.l, s.want.Kind, "k", s.want)
		var inside []api.Tx
		for _, x := range s.l {
			x.Ops = slices.Clone(x.Ops)
			for k, o := range x.Ops {
				x.Ops[k] = in("f", o)
			}
			inside = append(inside, x)
		}
		askRead(t, s.what+", in a map", inside, 6, "k", mapOf(named("f", s.want)))
		askRead(t, s.what+", of others", inside, s.want.Kind, "k", api.Value{Kind: s.want.Kind})
		beside := append(slices.Clone(inside), bystander())
		askRead(t, s.what+", beside others", beside, 6, "k", mapOf(named("e", words(4, "e")), named("f", s.want), named("g", number(9))))
		beside = append(slices.Clone(s.l), bystander())
		askRead(t, s.what+", beside others", beside, s.want.Kind, "k", s.want)
	}
}

// bystander is a transaction that has seen none of a scene's, and that none of these has seen: it changes other fields and objects.
func bystander() api.Tx {
	return tx(12, 99, api.Vec{}, in("g", add(9)), in("e", enter("e")), of("other", enter("a")), of("other", put(3, "a")), of("other", add(5)), of("other", in("f", add(5))), roster(1, 3))
}

// P17.1: the chapter's example.
func TestExample(t *testing.T) {
	a, b := tx(1, 1, api.Vec{}, put(3, "a")), tx(2, 1, api.Vec{}, put(3, "b"))
	askRead(t, "both", []api.Tx{a, b}, 3, "k", words(3, "a", "b"))
	askRead(t, "both", []api.Tx{b, a}, 3, "k", words(3, "a", "b"))
}

// P17.1: a Counter's N is the sum of all additions.
func TestCounter(t *testing.T) {
	const most = 1 << 30
	askScenes(t, []scene{
		{"one", []api.Tx{tx(1, 1, api.Vec{}, add(3))}, number(3)},
		{"nothing is added", []api.Tx{tx(1, 1, api.Vec{}, add(0))}, number(0)},
		{"several peers", []api.Tx{tx(1, 1, api.Vec{}, add(3)), tx(2, 1, api.Vec{}, add(-50)), tx(3, 9, seen(1), add(700)), nth(1, 2, 9, seen(1, 2), add(3), add(1))}, number(657)},
		{"below 0", []api.Tx{tx(1, 1, api.Vec{}, add(3), add(-4))}, number(-1)},
		{"the greatest", []api.Tx{tx(1, 1, api.Vec{}, slices.Repeat([]api.Op{add(most)}, 16)...), tx(2, 1, api.Vec{}, slices.Repeat([]api.Op{add(most)}, 16)...)}, number(32 * most)},
		{"the least", []api.Tx{tx(1, 1, api.Vec{}, slices.Repeat([]api.Op{add(-most)}, 16)...)}, number(-16 * most)},
		{"by two that saw each other", []api.Tx{tx(1, 1, seen(2), add(3)), tx(2, 1, seen(1), add(4))}, number(7)},
	})
}

// P17.1: of a Last the text of the write that no other one has seen is read; of several the one of the greatest Time, of these of the greatest Mark.
func TestLast(t *testing.T) {
	w := func(text string) api.Op { return put(2, text) }
	askScenes(t, []scene{
		{"one", []api.Tx{tx(1, 1, api.Vec{}, w("a"))}, words(2, "a")},
		{"an empty text", []api.Tx{tx(1, 1, api.Vec{}, w(""))}, words(2, "")},
		{"by Time", []api.Tx{tx(1, 5, api.Vec{}, w("a")), tx(2, 9, api.Vec{}, w("b")), tx(3, 7, api.Vec{}, w("c"))}, words(2, "b")},
		{"by Time, the least peer", []api.Tx{tx(1, 9, api.Vec{}, w("a")), tx(2, 8, api.Vec{}, w("b")), nth(3, 5, 8, api.Vec{}, w("c"))}, words(2, "a")},
		{"by Mark: the peer", []api.Tx{tx(1, 4, api.Vec{}, w("z")), tx(10, 4, api.Vec{}, w("x")), tx(2, 4, api.Vec{}, w("y")), tx(11, 3, api.Vec{}, w("w"))}, words(2, "x")},
		{"by Mark: the peer ahead of the Seq", []api.Tx{nth(1, 9, 4, api.Vec{}, w("a")), nth(2, 1, 4, api.Vec{}, w("b"))}, words(2, "b")},
		{"by Mark: the Seq ahead of the place", []api.Tx{nth(3, 2, 4, api.Vec{}, w("x"), w("y"), w("a")), nth(3, 10, 4, api.Vec{}, w("b")), nth(3, 1, 4, api.Vec{}, w("c"))}, words(2, "b")},
		{"one that saw another one is the last, whatever its Time", []api.Tx{tx(1, 9, api.Vec{}, w("a")), tx(2, 1, seen(1), w("b"))}, words(2, "b")},
		{"one that was seen is out, whatever its Time", []api.Tx{tx(1, 9, api.Vec{}, w("a")), tx(2, 2, seen(1), w("b")), tx(3, 3, api.Vec{}, w("c"))}, words(2, "c")},
		{"of one transaction the last place", []api.Tx{tx(1, 1, api.Vec{}, w("b"), w("c"), w("a"))}, words(2, "a")},
		{"what one of the middle saw is out too", []api.Tx{tx(1, 9, api.Vec{}, w("a")), tx(2, 5, seen(1), w("b")), tx(3, 1, seen(2), w("c"))}, words(2, "c")},
		{"two that saw each other", []api.Tx{tx(1, 1, seen(2), w("a")), tx(2, 2, seen(1), w("b"))}, words(2)},
		{"two that saw each other, and a third one", []api.Tx{tx(1, 5, seen(2), w("a")), tx(2, 6, seen(1), w("b")), tx(3, 1, api.Vec{}, w("c"))}, words(2, "c")},
	})
	l := []api.Tx{tx(2, 4, api.Vec{}, w("b")), {Time: 4, Ops: []api.Op{w("a")}}}
	askRead(t, "no Dot is the least Mark", l, 2, "k", words(2, "b"))
	l[1].Time = 5
	askRead(t, "no Dot, and later", l, 2, "k", words(2, "a"))
}

// P17.1: of a Many all texts of the writes that no other one has seen are read, rising, each once.
func TestMany(t *testing.T) {
	w := func(text string) api.Op { return put(3, text) }
	askScenes(t, []scene{
		{"one", []api.Tx{tx(1, 1, api.Vec{}, w("a"))}, words(3, "a")},
		{"rising, whatever the Time and the peer", []api.Tx{tx(1, 5, api.Vec{}, w("c")), tx(2, 9, api.Vec{}, w("")), tx(3, 7, api.Vec{}, w("b")), tx(4, 7, api.Vec{}, w("B")), tx(5, 1, api.Vec{}, w("\xff"))}, words(3, "", "B", "b", "c", "\xff")},
		{"each once", []api.Tx{tx(1, 1, api.Vec{}, w("b")), tx(2, 1, api.Vec{}, w("a")), tx(3, 1, api.Vec{}, w("b"))}, words(3, "a", "b")},
		{"one saw one", []api.Tx{tx(1, 1, api.Vec{}, w("a")), tx(2, 1, api.Vec{}, w("b")), tx(3, 1, seen(1), w("c"))}, words(3, "b", "c")},
		{"one saw the other one of one text", []api.Tx{tx(1, 1, api.Vec{}, w("a")), tx(2, 1, api.Vec{}, w("a")), tx(3, 1, seen(1), w("c"))}, words(3, "a", "c")},
		{"one saw all", []api.Tx{tx(1, 9, api.Vec{}, w("a")), tx(2, 9, api.Vec{}, w("b")), tx(3, 1, seen(1, 2), w("c"))}, words(3, "c")},
		{"two saw all", []api.Tx{tx(1, 9, api.Vec{}, w("a")), tx(2, 9, api.Vec{}, w("b")), tx(3, 1, seen(1, 2), w("c")), tx(4, 1, seen(1, 2), w("a"))}, words(3, "a", "c")},
		{"of one transaction the last place", []api.Tx{tx(1, 1, api.Vec{}, w("b"), w("c"), w("a")), tx(2, 1, api.Vec{}, w("d"))}, words(3, "a", "d")},
		{"what one of the middle saw is out too", []api.Tx{tx(1, 1, api.Vec{}, w("a")), tx(2, 1, seen(1), w("b")), tx(3, 1, seen(2), w("c"))}, words(3, "c")},
		{"a peer that has not seen its own", []api.Tx{nth(1, 1, 1, api.Vec{}, w("a")), nth(1, 2, 1, api.Vec{}, w("b")), nth(1, 3, 1, api.Vec{0, 1}, w("c"))}, words(3, "b", "c")},
		{"two that saw each other, and a third one", []api.Tx{tx(1, 5, seen(2), w("a")), tx(2, 6, seen(1), w("b")), tx(3, 1, api.Vec{}, w("c"))}, words(3, "c")},
	})
}

// P17.1: of a Set each text is read, rising, that was added by one that no removal of that text has seen.
func TestSet(t *testing.T) {
	askScenes(t, []scene{
		{"additions", []api.Tx{tx(1, 1, api.Vec{}, enter("b"), enter("c")), tx(2, 1, api.Vec{}, enter("a"), enter("b"), enter(""))}, words(4, "", "a", "b", "c")},
		{"a removal that saw it", []api.Tx{tx(1, 1, api.Vec{}, enter("a"), enter("b")), tx(2, 1, seen(1), leave("a"))}, words(4, "b")},
		{"a removal that did not", []api.Tx{tx(1, 1, api.Vec{}, enter("a"), enter("b")), tx(2, 9, api.Vec{}, leave("a"))}, words(4, "a", "b")},
		{"a removal that saw one of two", []api.Tx{tx(1, 1, api.Vec{}, enter("a")), tx(2, 9, seen(1), leave("a")), tx(3, 1, api.Vec{}, enter("a"))}, words(4, "a")},
		{"removals that saw one each", []api.Tx{tx(1, 1, api.Vec{}, enter("a")), tx(2, 1, api.Vec{}, enter("a")), tx(3, 1, seen(1), leave("a")), tx(4, 1, seen(2), leave("a"))}, words(4)},
		{"a removal of another text that saw it", []api.Tx{tx(1, 1, api.Vec{}, enter("a"), enter("b")), tx(2, 9, seen(1), leave("b")), tx(3, 9, api.Vec{}, leave("a"))}, words(4, "a")},
		{"added again by one that saw the removal", []api.Tx{tx(1, 1, api.Vec{}, enter("a")), tx(2, 9, seen(1), leave("a")), tx(3, 1, seen(1, 2), enter("a"))}, words(4, "a")},
		{"a removal alone", []api.Tx{tx(1, 1, api.Vec{}, leave("a"))}, words(4)},
		{"of one transaction: added, and removed", []api.Tx{tx(1, 1, api.Vec{}, enter("a"), enter("b"), leave("a"))}, words(4, "b")},
		{"of one transaction: removed, and added", []api.Tx{tx(1, 1, api.Vec{}, leave("a"), enter("a"), leave("b"))}, words(4, "a")},
		{"of one transaction: added, removed, added", []api.Tx{tx(1, 1, api.Vec{}, enter("a"), leave("a"), enter("a"))}, words(4, "a")},
		{"an addition and a removal that saw each other", []api.Tx{tx(1, 1, seen(2), enter("a")), tx(2, 1, seen(1), leave("a"))}, words(4)},
	})
}

// P17.1: of a Seq those that count stand in layer 11's order: behind one another, at one place the latest one first.
func TestSeqOrder(t *testing.T) {
	none := api.Mark{}
	askScenes(t, []scene{
		{"one", []api.Tx{tx(1, 1, api.Vec{}, ins(none, "a"))}, words(5, "a")},
		{"texts twice, and an empty one", []api.Tx{tx(1, 1, api.Vec{}, ins(none, "a"), ins(mk(1, 1, 1), "a"), ins(mk(1, 1, 2), ""))}, words(5, "a", "a", "")},
		{"behind one another", []api.Tx{tx(1, 1, api.Vec{}, ins(none, "c"), ins(mk(1, 1, 1), "b")), tx(2, 5, seen(1), ins(mk(1, 1, 2), "a"))}, words(5, "c", "b", "a")},
		{"at one place by Time", []api.Tx{tx(1, 5, api.Vec{}, ins(none, "b")), tx(2, 9, api.Vec{}, ins(none, "a")), tx(3, 4, api.Vec{}, ins(none, "c"))}, words(5, "a", "b", "c")},
		{"at one place by Mark", []api.Tx{tx(2, 5, api.Vec{}, ins(none, "b")), tx(3, 5, api.Vec{}, ins(none, "a")), tx(1, 5, api.Vec{}, ins(none, "d"), ins(none, "c"))}, words(5, "a", "b", "c", "d")},
		{"at one place by Mark: the Seq", []api.Tx{nth(1, 2, 5, api.Vec{}, ins(none, "b")), nth(1, 10, 5, api.Vec{}, ins(none, "a")), nth(1, 1, 5, api.Vec{}, ins(none, "d"), ins(none, "c"))}, words(5, "a", "b", "c", "d")},
		{"each with all behind it", []api.Tx{
			tx(1, 1, api.Vec{}, ins(none, "a"), ins(mk(1, 1, 1), "b"), ins(mk(1, 1, 2), "c")), tx(2, 2, api.Vec{}, ins(none, "d"), ins(mk(2, 1, 1), "e")),
			tx(3, 9, seen(1, 2), ins(mk(1, 1, 1), "f"), ins(mk(2, 1, 1), "g")), tx(4, 8, seen(1, 2), ins(mk(1, 1, 1), "h"), ins(mk(1, 1, 2), "i")),
		}, words(5, "d", "g", "e", "a", "f", "h", "b", "i", "c")},
		{"behind one that is later, and one that was seen", []api.Tx{tx(1, 1, api.Vec{}, ins(none, "a")), tx(2, 3, seen(1), ins(mk(1, 1, 1), "b")), tx(3, 2, seen(1, 2), ins(mk(1, 1, 1), "c"))}, words(5, "a", "b", "c")},
	})
}

// P17.1: of a Seq an insertion counts behind one that is removed, if it had not seen that; those that are removed are not read, and keep the place of what is behind them.
func TestSeqRemoved(t *testing.T) {
	none := api.Mark{}
	abc := tx(1, 1, api.Vec{}, ins(none, "a"), ins(mk(1, 1, 1), "b"), ins(mk(1, 1, 2), "c"))
	askScenes(t, []scene{
		{"the first, a middle and the last one", []api.Tx{abc, tx(2, 1, seen(1), cut(mk(1, 1, 1)))}, words(5, "b", "c")},
		{"a middle one", []api.Tx{abc, tx(2, 1, seen(1), cut(mk(1, 1, 2)))}, words(5, "a", "c")},
		{"the last one", []api.Tx{abc, tx(2, 1, seen(1), cut(mk(1, 1, 3)))}, words(5, "a", "b")},
		{"all", []api.Tx{abc, tx(2, 1, seen(1), cut(mk(1, 1, 3)), cut(mk(1, 1, 1))), tx(3, 1, seen(1), cut(mk(1, 1, 2)))}, words(5)},
		{"twice", []api.Tx{abc, tx(2, 1, seen(1), cut(mk(1, 1, 1))), tx(3, 1, seen(1), cut(mk(1, 1, 1)))}, words(5, "b", "c")},
		{"behind one that is removed, and not seen so", []api.Tx{abc, tx(2, 1, seen(1), cut(mk(1, 1, 1))), tx(3, 5, seen(1), ins(mk(1, 1, 1), "d"))}, words(5, "d", "b", "c")},
		{"behind one that is removed, and seen so", []api.Tx{abc, tx(2, 1, seen(1), cut(mk(1, 1, 1))), tx(3, 5, seen(1, 2), ins(mk(1, 1, 1), "d"))}, words(5, "b", "c")},
		{"behind another one than the removed one", []api.Tx{abc, tx(2, 1, seen(1), cut(mk(1, 1, 1))), tx(3, 5, seen(1, 2), ins(mk(1, 1, 2), "d"))}, words(5, "b", "d", "c")},
		{"seen by the second of two removals", []api.Tx{abc, tx(2, 1, seen(1), cut(mk(1, 1, 1))), tx(4, 1, seen(1), cut(mk(1, 1, 1))), tx(3, 5, seen(1, 4), ins(mk(1, 1, 1), "d"))}, words(5, "b", "c")},
		{"of one transaction: removed, and one behind it", []api.Tx{tx(1, 1, api.Vec{}, ins(none, "a"), cut(mk(1, 1, 1)), ins(mk(1, 1, 1), "b"))}, words(5)},
		{"of one transaction: one behind it, and removed", []api.Tx{tx(1, 1, api.Vec{}, ins(none, "a"), ins(mk(1, 1, 1), "b"), cut(mk(1, 1, 1)))}, words(5, "b")},
		{"behind one that does not count", []api.Tx{abc, tx(2, 1, seen(1), cut(mk(1, 1, 1))), tx(3, 5, seen(1, 2), ins(mk(1, 1, 1), "d"), ins(mk(3, 1, 1), "e")), tx(4, 6, seen(3), ins(mk(3, 1, 2), "f"))}, words(5, "b", "c")},
		{"one that does not count is removed", []api.Tx{abc, tx(2, 1, seen(1), cut(mk(1, 1, 1))), tx(3, 5, seen(1, 2), ins(mk(1, 1, 1), "d"), cut(mk(3, 1, 1)))}, words(5, "b", "c")},
		{"removed by one that an insertion behind it has seen, and another one has not", []api.Tx{abc, tx(2, 2, seen(1), cut(mk(1, 1, 3))), tx(3, 5, seen(1), ins(mk(1, 1, 3), "d")), tx(4, 6, seen(1, 2, 3), ins(mk(1, 1, 3), "e"), ins(mk(3, 1, 1), "f"))}, words(5, "a", "b", "d", "f")},
		{"two that stand behind each other", []api.Tx{tx(1, 1, seen(2), ins(mk(2, 1, 1), "a"), ins(none, "c")), tx(2, 2, seen(1), ins(mk(1, 1, 1), "b"))}, words(5, "c")},
	})
}

// P17.1: of a Seq an insertion whose Ref is no insertion of the same leaf does not count: it is that of another object, field, kind or act, or of nobody; a removal of such one takes nothing away.
func TestSeqStrangeRef(t *testing.T) {
	none := api.Mark{}
	first := tx(1, 1, api.Vec{}, ins(none, "a"), of("other", ins(none, "b")), in("f", ins(none, "c")), in("g", ins(none, "d")), add(3), enter("e"), cut(mk(1, 1, 1)), roster(1, 2), in("f", put(2, "x")), of("other", in("f", ins(none, "y"))))
	for place := 1; place <= 16; place++ {
		for _, x := range []api.Tx{
			tx(2, 5, seen(1), ins(mk(1, 1, place), "new"), in("f", ins(mk(1, 1, place), "new")), in("g", ins(mk(1, 1, place), "new"))),
			{Time: 5, Deps: seen(1), Ops: []api.Op{ins(mk(1, 1, place), "new"), in("f", ins(mk(1, 1, place), "new")), in("g", ins(mk(1, 1, place), "new"))}},
		} {
			l := []api.Tx{first, x}
			f, g := words(5, "c"), words(5, "d")
			switch place {
			case 3:
				f = words(5, "c", "new")
			case 4:
				g = words(5, "d", "new")
			}
			askCheck(t, "may be", l, true)
			// The element a is removed, and x has seen that.
			askRead(t, fmt.Sprint("behind the op ", place), l, 5, "k", words(5))
			askRead(t, fmt.Sprint("behind the op ", place), l, 6, "k", mapOf(named("f", words(2, "x")), named("f", f), named("g", g)))
			askRead(t, fmt.Sprint("behind the op ", place), l, 5, "other", words(5, "b"))
			askRead(t, fmt.Sprint("behind the op ", place), l, 6, "other", mapOf(named("f", words(5, "y"))))
		}
	}
	l := []api.Tx{nth(1, 3, 1, api.Vec{0, 2, 1}, ins(mk(1, 2, 1), "a"), ins(mk(2, 1, 1), "b"), ins(none, "c"), cut(mk(1, 2, 2)), of("other", cut(mk(1, 3, 3))), in("f", cut(mk(1, 3, 3))))}
	askRead(t, "behind what is not there", l, 5, "k", words(5, "c"))
	askRead(t, "a field where a removal alone was done", l, 6, "k", mapOf(named("f", words(5))))
}

// made answers an op that makes a leaf k of a kind, and what is read of that alone.
func made(kind int, n int, text string) (api.Op, api.Value) {
	switch kind {
	case api.Counter:
		return add(n), number(n)
	case api.Set:
		return enter(text), words(4, text)
	case api.Seq:
		return ins(api.Mark{}, text), words(5, text)
	}
	return put(kind, text), words(kind, text)
}

// both answers what is read of two leaves that were made by two who had not seen each other, the second one later.
func both(a api.Value, b api.Value) api.Value {
	switch a.Kind {
	case api.Counter:
		return number(a.N + b.N)
	case api.Last:
		return b
	case api.Seq:
		return words(5, b.Texts[0], a.Texts[0])
	}
	return words(a.Kind, a.Texts[0], b.Texts[0])
}

// P17.1: a field of every kind that is dropped: by one that has seen what made it, by one that has not; made again by one that has seen the drop, and by one that has not; dropped under another name, kind or key.
func TestDropped(t *testing.T) {
	for kind := api.Counter; kind <= api.Seq; kind++ {
		a, readA := made(kind, 5, "a")
		b, readB := made(kind, 70, "b")
		one, two := tx(1, 1, api.Vec{}, in("f", a)), tx(2, 2, api.Vec{}, in("f", b))
		behind := tx(4, 2, seen(1, 3), in("f", b))
		for _, c := range []struct {
			what string
			l    []api.Tx
			want api.Value
		}{
			{"not dropped", []api.Tx{one, two}, mapOf(named("f", both(readA, readB)))},
			{"by one that has seen it", []api.Tx{one, tx(3, 9, seen(1), drop("f", kind))}, mapOf()},
			{"by one that has not", []api.Tx{one, tx(3, 9, api.Vec{}, drop("f", kind))}, mapOf(named("f", readA))},
			{"by one that has seen one of two", []api.Tx{one, two, tx(3, 9, seen(1), drop("f", kind))}, mapOf(named("f", readB))},
			{"by one that has seen the other one", []api.Tx{one, two, tx(3, 9, seen(2), drop("f", kind))}, mapOf(named("f", readA))},
			{"by one that has seen both", []api.Tx{one, two, tx(3, 9, seen(1, 2), drop("f", kind))}, mapOf()},
			{"by two that have seen one each", []api.Tx{one, two, tx(3, 9, seen(1), drop("f", kind)), tx(4, 9, seen(2), drop("f", kind))}, mapOf()},
			{"made again by one that has seen the drop", []api.Tx{one, tx(3, 9, seen(1), drop("f", kind)), behind}, mapOf(named("f", readB))},
			{"made again, and dropped again", []api.Tx{one, tx(3, 9, seen(1), drop("f", kind)), behind, tx(5, 9, seen(1, 3, 4), drop("f", kind))}, mapOf()},
			{"of another name", []api.Tx{one, tx(3, 9, seen(1), drop("g", kind))}, mapOf(named("f", readA))},
			{"of another kind", []api.Tx{one, tx(3, 9, seen(1), drop("f", kind%5+1))}, mapOf(named("f", readA))},
			{"of another map", []api.Tx{one, tx(3, 9, seen(1), of("other", drop("f", kind)))}, mapOf(named("f", readA))},
			{"of one transaction: made, and dropped", []api.Tx{tx(1, 1, api.Vec{}, in("f", a), drop("f", kind))}, mapOf()},
			{"of one transaction: dropped, and made", []api.Tx{tx(1, 1, api.Vec{}, drop("f", kind), in("f", a))}, mapOf(named("f", readA))},
			{"of one transaction: made, dropped, and made", []api.Tx{tx(1, 1, api.Vec{}, in("f", a), drop("f", kind), in("f", b))}, mapOf(named("f", readB))},
			{"a drop alone", []api.Tx{tx(3, 9, seen(1), drop("f", kind))}, mapOf()},
		} {
			what := fmt.Sprint(c.what, ", of kind ", kind)
			askCheck(t, what, c.l, true)
			askRead(t, what, c.l, 6, "k", c.want)
			askRead(t, what+", the leaf", c.l, kind, "k", api.Value{Kind: kind})
		}
	}
}

// P17.1: a drop that has seen the later one of two alone: a write that another one has seen is not read, though that one was dropped; a removal counts, though it was dropped.
func TestDroppedInPart(t *testing.T) {
	for _, kind := range []int{2, 3} {
		l := []api.Tx{tx(1, 1, api.Vec{}, in("f", put(kind, "a"))), tx(2, 2, seen(1), in("f", put(kind, "b"))), tx(3, 3, seen(2), drop("f", kind))}
		askRead(t, "the later one was dropped alone", l, 6, "k", mapOf(named("f", words(kind))))
		askRead(t, "before it was", l[:2], 6, "k", mapOf(named("f", words(kind, "b"))))
	}
	l := []api.Tx{tx(1, 1, api.Vec{}, in("f", enter("a")), in("f", enter("b"))), tx(2, 2, seen(1), in("f", leave("a"))), tx(3, 3, seen(2), drop("f", 4))}
	askRead(t, "the removal was dropped alone", l, 6, "k", mapOf(named("f", words(4, "b"))))
	l = []api.Tx{tx(1, 1, api.Vec{}, in("f", ins(api.Mark{}, "a")), in("f", ins(api.Mark{}, "b"))), tx(2, 2, seen(1), in("f", cut(mk(1, 1, 1)))), tx(3, 3, seen(2), drop("f", 5)), tx(4, 4, seen(1, 2), in("f", ins(mk(1, 1, 1), "c")))}
	askRead(t, "the removal of an element was dropped alone", l, 6, "k", mapOf(named("f", words(5, "b"))))
	l = []api.Tx{tx(1, 1, api.Vec{}, in("f", enter("a"))), tx(2, 2, seen(1), drop("f", 4)), tx(3, 3, seen(1), in("f", leave("b")))}
	askRead(t, "a removal alone is live", l, 6, "k", mapOf(named("f", words(4))))
}

// P17.1: a Seq in a field that is dropped: those that the drop has seen are not read; behind them one counts that has not seen the drop, and none that has; a drop that has not seen the one ahead is nothing to it.
func TestDroppedSeq(t *testing.T) {
	ab := tx(1, 1, api.Vec{}, in("f", ins(api.Mark{}, "a")), in("f", ins(mk(1, 1, 1), "b")))
	gone := tx(2, 2, seen(1), drop("f", 5))
	idle := tx(2, 2, api.Vec{}, drop("f", 5))
	blind := tx(3, 3, seen(1), in("f", ins(mk(1, 1, 1), "c")))
	late := tx(4, 4, seen(1, 2), in("f", ins(mk(1, 1, 1), "d")), in("f", ins(mk(4, 1, 1), "e")))
	for _, c := range []struct {
		what string
		l    []api.Tx
		want api.Value
	}{
		{"dropped", []api.Tx{ab, gone}, mapOf()},
		{"behind it by one that has not seen the drop", []api.Tx{ab, gone, blind}, mapOf(named("f", words(5, "c")))},
		{"behind it by one that has", []api.Tx{ab, gone, late}, mapOf(named("f", words(5)))},
		{"by both", []api.Tx{ab, gone, late, blind}, mapOf(named("f", words(5, "c")))},
		{"behind the one that counts", []api.Tx{ab, gone, late, blind, tx(5, 5, seen(1, 2, 3), in("f", ins(mk(3, 1, 1), "g")))}, mapOf(named("f", words(5, "c", "g")))},
		{"at the beginning by one that has seen the drop", []api.Tx{ab, gone, tx(5, 5, seen(1, 2), in("f", ins(api.Mark{}, "h")))}, mapOf(named("f", words(5, "h")))},
		{"a drop that has not seen it", []api.Tx{ab, idle, late}, mapOf(named("f", words(5, "a", "d", "e", "b")))},
		{"a removal alone is live", []api.Tx{ab, gone, tx(3, 3, seen(1), in("f", cut(mk(1, 1, 1))))}, mapOf(named("f", words(5)))},
		{"of another field", []api.Tx{ab, tx(2, 2, seen(1), drop("g", 5), drop("f", 4), of("other", drop("f", 5))), late}, mapOf(named("f", words(5, "a", "d", "e", "b")))},
		{"of one transaction", []api.Tx{tx(1, 1, api.Vec{}, in("f", ins(api.Mark{}, "a")), drop("f", 5), in("f", ins(mk(1, 1, 1), "b")), in("f", ins(api.Mark{}, "c")))}, mapOf(named("f", words(5, "c")))},
		{"of one transaction, behind the drop", []api.Tx{tx(1, 1, api.Vec{}, drop("f", 5), in("f", ins(api.Mark{}, "a")), in("f", ins(mk(1, 1, 2), "b")))}, mapOf(named("f", words(5, "a", "b")))},
		{"a drop that it has seen has not seen the one ahead, and one that has, it has not seen", []api.Tx{ab, tx(6, 2, api.Vec{}, drop("f", 5)), gone, tx(7, 7, seen(1, 6), in("f", ins(mk(1, 1, 2), "i")))}, mapOf(named("f", words(5, "i")))},
	} {
		askCheck(t, c.what, c.l, true)
		askRead(t, c.what, c.l, 6, "k", c.want)
	}
}

// P17.1: a map's Fields stand by rising Name, then kind; one name with two kinds is two fields.
func TestFieldsRise(t *testing.T) {
	names := []string{"\x00", "B", "a", "aa", "b", strings.Repeat("f", 64), "\xff"}
	var want []api.Named
	var l []api.Tx
	for k, name := range names {
		for kind := api.Counter; kind <= api.Seq; kind++ {
			o, v := made(kind, k+1, fmt.Sprint(k, kind))
			want = append(want, named(name, v))
			l = append(l, nth(1+len(l)%12, 1+len(l)/12, 1, api.Vec{}, in(name, o)))
		}
	}
	askRead(t, "rising", l, 6, "k", mapOf(want...))
	slices.Reverse(l)
	askRead(t, "falling", l, 6, "k", mapOf(want...))
}

// P17.1: no transactions may be; what is read is empty, and so is what nobody has made of others.
func TestNothing(t *testing.T) {
	for _, l := range [][]api.Tx{nil, {}, {{Time: 1}}, {{Time: 1 << 40, Deps: seen(1, 12), Ops: []api.Op{}}}, {bystander()}, {bystander(), {Time: 1}}} {
		askCheck(t, "may be", l, true)
		for kind := api.Counter; kind <= api.Map; kind++ {
			askRead(t, "nothing", l, kind, "none", api.Value{Kind: kind})
		}
	}
	l := []api.Tx{{Time: 1}, {Time: 1}}
	askRead(t, "of a list its length alone counts", l[:1], 1, "k", number(0))
	x := tx(1, 1, api.Vec{}, add(3), add(4))
	x.Ops = x.Ops[:1]
	askRead(t, "of a list its length alone counts", []api.Tx{x}, 1, "k", number(3))
}

// P17.1: a kind from Counter to Map, and a key of 1 to MaxText bytes; of others the zero Value is read.
func TestKindsAndKeys(t *testing.T) {
	var l []api.Op
	for kind := api.Counter; kind <= api.Seq; kind++ {
		for _, n := range []int{1, 64} {
			o, _ := made(kind, 3, "t")
			l = append(l, of(strings.Repeat("x", n), o))
		}
	}
	all := []api.Tx{tx(1, 1, api.Vec{}, l...), tx(2, 1, api.Vec{}, of("x", in("f", add(3))), of(strings.Repeat("x", 64), in("f", add(3))), roster(1, 3))}
	askCheck(t, "may be", all, true)
	for _, kind := range []int{math.MinInt, -7, -1, 0, 1, 2, 3, 4, 5, 6, 7, 8, 1<<32 + 1, math.MaxInt} {
		for _, n := range []int{0, 1, 2, 63, 64, 65, 1000} {
			var want api.Value
			switch {
			case kind < 1 || kind > 6 || n < 1 || n > 64:
			case n == 2 || n == 63:
				want.Kind = kind
			case kind == api.Map:
				want = mapOf(named("f", number(3)))
			default:
				_, want = made(kind, 3, "t")
			}
			askRead(t, "of all", all, kind, strings.Repeat("x", n), want)
			if want.Kind != 0 {
				want = api.Value{Kind: kind}
			}
			askRead(t, "of none", nil, kind, strings.Repeat("x", n), want)
		}
	}
	askRead(t, "no key of the Roster", all, 7, "", api.Value{})
	askRead(t, "each byte of a key counts", all, 1, "X", number(0))
}

// P17.1: a transaction with MaxOps ops, all of which are read; the ops of a transaction see one another by their places alone.
func TestMostOps(t *testing.T) {
	var l []api.Op
	for k := range 16 {
		l = append(l, ins(api.Mark{Index: k, Dot: api.Dot{Peer: min(k, 1), Seq: min(k, 1)}}, string(rune('a'+k))))
	}
	x := tx(1, 1, api.Vec{}, l...)
	askRead(t, "a chain", []api.Tx{x}, 5, "k", words(5, strings.Split("abcdefghijklmnop", "")...))
	for k := range x.Ops {
		x.Ops[k] = in("f", put(3, string(rune('a'+k))))
	}
	askRead(t, "writes", []api.Tx{x}, 6, "k", mapOf(named("f", words(3, "p"))))
	x.Ops[7] = drop("f", 3)
	askRead(t, "a drop among them", []api.Tx{x}, 6, "k", mapOf(named("f", words(3, "p"))))
	x.Ops[15] = drop("f", 3)
	askRead(t, "a drop behind them", []api.Tx{x}, 6, "k", mapOf())
}

// P17.1: one with no Dot, which CheckOpen takes, among others: it has seen what its Deps have, and its own ops by their places; nobody has seen it.
func TestOpen(t *testing.T) {
	none := api.Mark{}
	l := []api.Tx{
		tx(1, 1, api.Vec{}, add(3), put(2, "a"), put(3, "a"), enter("a"), ins(none, "a"), in("f", add(5)), in("g", enter("x"))),
		{Time: 2, Deps: seen(1), Ops: []api.Op{
			add(4), add(10), put(2, "b"), put(3, "b"), put(3, "c"), leave("a"), enter("b"), ins(mk(1, 1, 5), "b"), ins(mk(0, 0, 8), "c"), ins(mk(0, 0, 9), "d"), cut(mk(0, 0, 9)), drop("f", 1), in("f", add(7)), drop("g", 4), roster(2, 1),
		}},
		tx(2, 9, seen(1), put(2, "z"), put(3, "z"), leave("b"), ins(mk(1, 1, 5), "z"), drop("f", 1)),
	}
	askCheck(t, "may be", l, true)
	for _, want := range []api.Value{number(17), words(2, "z"), words(3, "c", "z"), words(4, "b"), words(5, "a", "z", "b", "d"), mapOf(named("f", number(7)))} {
		askRead(t, "open", l, want.Kind, "k", want)
		askRead(t, "open, told first", []api.Tx{l[1], l[0], l[2]}, want.Kind, "k", want)
	}
	for _, want := range []api.Value{number(14), words(2, "b"), words(3, "c"), words(4, "b"), words(5), mapOf(named("f", number(7)))} {
		askRead(t, "open, alone", l[1:2], want.Kind, "k", want)
	}
	twice := append(slices.Clone(l), api.Tx{Time: 5, Ops: []api.Op{add(1)}})
	askCheck(t, "two without a Dot", twice, false)
	askRead(t, "two without a Dot", twice, 1, "k", api.Value{})
}

// P17.1: ops of the Roster are nobody's: neither they nor how many there are change what is read; their places count.
func TestRosterAmongOthers(t *testing.T) {
	x := tx(1, 1, api.Vec{}, roster(1, 5), add(3), roster(2, 4), ins(api.Mark{}, "a"), ins(mk(1, 1, 4), "b"), roster(1, 12))
	l := []api.Tx{x, tx(2, 1, api.Vec{}, roster(1, 1)), tx(3, 1, seen(1, 2), roster(2, 1), cut(mk(1, 1, 4)))}
	askCheck(t, "may be", l, true)
	askRead(t, "the Counter", l, 1, "k", number(3))
	askRead(t, "the Seq", l, 5, "k", words(5, "b"))
	askRead(t, "the Roster", l, 7, "k", api.Value{})
	askRead(t, "the Map", l, 6, "k", mapOf())
}
