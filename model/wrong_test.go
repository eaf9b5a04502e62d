package model_test

import (
	"fmt"
	"math"
	"slices"
	"strings"
	"testing"

	"plexus/api"
	"plexus/model"
	"plexus/ops"
)

// sound is a transaction that may be, which has seen the first ones of 1 and 2, and can be turned into each that may not.
func sound() api.Tx {
	return nth(3, 2, 6, api.Vec{0, 1, 1, 1}, add(3), ins(api.Mark{}, "a"), ins(mk(3, 2, 2), "b"), in("f", enter("x")))
}

// turned answers a transaction that is the same, but for what turn does to it.
func turned(x api.Tx, turn func(*api.Tx)) api.Tx {
	x.Ops = slices.Clone(x.Ops)
	turn(&x)
	return x
}

// wrongNames are transactions that may not be for their Dots, what they have seen, and their times.
func wrongNames() []api.Tx {
	var l []api.Tx
	for _, d := range []api.Dot{{Peer: 0, Seq: 2}, {Peer: 3}, {Peer: 13, Seq: 2}, {Peer: -1, Seq: 2}, {Peer: 3, Seq: -1}, {Peer: 3, Seq: 1<<20 + 1}, {Peer: math.MinInt, Seq: math.MinInt}, {Peer: math.MaxInt, Seq: math.MaxInt}} {
		l = append(l, turned(sound(), func(x *api.Tx) { x.Dot, x.Ops = d, x.Ops[:1] }))
	}
	for p := range api.MaxPeers + 1 {
		for _, n := range []int{-1, 1<<20 + 1, math.MinInt, math.MaxInt} {
			l = append(l, turned(sound(), func(x *api.Tx) { x.Deps[p] = n }))
			l = append(l, turned(sound(), func(x *api.Tx) { x.Deps[p], x.Dot, x.Ops = n, api.Dot{}, nil }))
		}
	}
	for _, n := range []int{2, 3, 1 << 20} {
		l = append(l, turned(sound(), func(x *api.Tx) { x.Deps[3] = n }))
	}
	for _, time := range []int{0, -1, 1<<40 + 1, math.MinInt, math.MaxInt} {
		l = append(l, turned(sound(), func(x *api.Tx) { x.Time = time }))
		l = append(l, turned(sound(), func(x *api.Tx) { x.Time, x.Dot, x.Ops = time, api.Dot{}, nil }))
	}
	return append(l, turned(sound(), func(x *api.Tx) { x.Deps[0] = 1 }))
}

// wrongCounts are transactions that may not be for how many ops they have: none, with a name; more than MaxOps.
func wrongCounts() []api.Tx {
	var l []api.Tx
	for _, n := range []int{0, 17, 18, 1000} {
		l = append(l, turned(sound(), func(x *api.Tx) { x.Ops = slices.Repeat([]api.Op{add(1)}, n) }))
	}
	return append(l, turned(sound(), func(x *api.Tx) { x.Dot, x.Ops = api.Dot{}, slices.Repeat([]api.Op{add(1)}, 17) }))
}

// wrongRefs are transactions that may not be for a Ref that is not Before the op that has it.
func wrongRefs() []api.Tx {
	var l []api.Tx
	for _, m := range []api.Mark{mk(3, 2, 3), mk(3, 2, 4), mk(3, 2, 16), mk(3, 3, 1), mk(1, 2, 1), mk(4, 1, 1), mk(0, 0, 1), mk(0, 0, 2)} {
		l = append(l, turned(sound(), func(x *api.Tx) { x.Ops[2].Ref = m }))
		l = append(l, turned(sound(), func(x *api.Tx) { x.Ops[2] = cut(m) }))
		l = append(l, turned(sound(), func(x *api.Tx) { x.Ops[2] = in("f", cut(m)) }))
	}
	for _, m := range []api.Mark{mk(0, 0, 3), mk(0, 0, 4), mk(3, 2, 2), mk(4, 1, 1)} {
		l = append(l, turned(sound(), func(x *api.Tx) { x.Dot, x.Ops[2].Ref = api.Dot{}, m }))
	}
	return l
}

// wrongOps are ops that may not be: each is one that may, with one thing turned.
func wrongOps() []api.Op {
	var l []api.Op
	turned := func(o api.Op, turn func(*api.Op)) {
		turn(&o)
		l = append(l, o)
	}
	for _, o := range []api.Op{add(3), put(2, "a"), put(3, "a"), enter("a"), leave("a"), ins(api.Mark{}, "a"), cut(mk(1, 1, 1)), in("f", add(3)), in("f", enter("a")), in("f", cut(mk(1, 1, 1))), drop("f", 5), roster(1, 2)} {
		for _, n := range []int{math.MinInt, -1, 0, 6, 7, 8, math.MaxInt} {
			turned(o, func(o *api.Op) { o.Kind = n })
			turned(o, func(o *api.Op) { o.Inner = n })
			turned(o, func(o *api.Op) { o.Act = n })
			turned(o, func(o *api.Op) { o.N = n })
		}
		for act := range 6 {
			turned(o, func(o *api.Op) { o.Act = act })
		}
		for _, n := range []int{1<<30 + 1, -1<<30 - 1, 13} {
			turned(o, func(o *api.Op) { o.N = n })
		}
		for _, n := range []int{0, 1, 65, 1000} {
			turned(o, func(o *api.Op) { o.Key = strings.Repeat("k", n) })
			turned(o, func(o *api.Op) { o.Field = strings.Repeat("f", n) })
			turned(o, func(o *api.Op) { o.Text = strings.Repeat("t", n) })
		}
		for _, m := range []api.Mark{{}, mk(1, 1, 1), mk(1, 1, 0), mk(1, 1, -1), mk(1, 1, 17), mk(13, 1, 1), mk(-1, 1, 1), mk(1, 0, 1), mk(0, 1, 1), mk(1, 1<<20+1, 1), mk(0, 0, 17), mk(0, 0, -1)} {
			turned(o, func(o *api.Op) { o.Ref = m })
		}
	}
	return slices.DeleteFunc(l, ops.CheckOp)
}

// wrong are transactions that may not be, for each reason of chapter 7; a wrong op stands first, in the middle and last.
func wrong() []api.Tx {
	l := slices.Concat(wrongNames(), wrongCounts(), wrongRefs())
	for _, o := range wrongOps() {
		for place := range 3 {
			x := nth(3, 2, 6, api.Vec{0, 1, 1, 1}, slices.Insert([]api.Op{add(1), add(1)}, place, o)...)
			l = append(l, x, turned(x, func(x *api.Tx) { x.Dot = api.Dot{} }))
		}
	}
	return l
}

// askRefused asks whether transactions may not be, and nothing is read of them.
func askRefused(t *testing.T, what string, l []api.Tx) {
	t.Helper()
	askCheck(t, what, l, false)
	for kind := -1; kind <= 8; kind++ {
		for _, key := range []string{"k", "other", "none", ""} {
			askRead(t, what, l, kind, key, api.Value{})
		}
	}
}

// P17.1: a transaction that neither CheckTx nor CheckOpen takes, as the first, a middle and the last one, and alone: Check is false, and the zero Value is read, of objects of which it has no op too.
func TestWrongTransactions(t *testing.T) {
	askCheck(t, "sound", []api.Tx{sound()}, true)
	others := []api.Tx{tx(1, 1, api.Vec{}, add(3), enter("a")), tx(2, 2, seen(1), in("f", add(3)), of("other", add(1)))}
	askCheck(t, "the others", others, true)
	l := wrong()
	if len(l) < 2000 {
		t.Error(len(l), "wrong ones")
	}
	for _, x := range l {
		if ops.CheckTx(x) || ops.CheckOpen(x) {
			t.Fatalf("%+v may be", x)
		}
		askRefused(t, "alone", []api.Tx{x})
		for place := range 3 {
			askRefused(t, fmt.Sprint("at the place ", place), slices.Insert(slices.Clone(others), place, x))
		}
	}
}

// P17.1: two transactions of one Dot, the same ones and unlike ones, next to each other and far apart, with a Dot and without one.
func TestOneDotTwice(t *testing.T) {
	all := story()
	for a := range all {
		for place := range len(all) + 1 {
			other := all[a]
			askRefused(t, "the same", slices.Insert(slices.Clone(all), place, other))
			other.Time, other.Deps, other.Ops = 8, api.Vec{}, []api.Op{of("else", add(1))}
			if !ops.CheckTx(other) && !ops.CheckOpen(other) {
				t.Fatalf("%+v may not be", other)
			}
			askCheck(t, "in its place", slices.Concat(all[:a], []api.Tx{other}, all[a+1:]), true)
			askRefused(t, "unlike", slices.Insert(slices.Clone(all), place, other))
		}
	}
	x := tx(1, 1, api.Vec{}, add(1))
	askRefused(t, "alone, twice", []api.Tx{x, x})
	askRefused(t, "three times", []api.Tx{x, x, x})
	y := nth(2, 1, 1, api.Vec{}, add(1))
	askCheck(t, "another peer", []api.Tx{x, y}, true)
	y = nth(1, 2, 1, api.Vec{}, add(1))
	askCheck(t, "another Seq", []api.Tx{x, y}, true)
}

// image tells all that transactions hold, and the room behind their ends.
func image(l []api.Tx) string {
	var b strings.Builder
	for _, x := range l[:cap(l)] {
		fmt.Fprintf(&b, "%+v %+v\n", x, x.Ops[:cap(x.Ops)])
	}
	return b.String()
}

// roomy answers transactions that are the same, of new memory, with some room behind the ends, in which ops stand that count for nothing.
func roomy(l []api.Tx) []api.Tx {
	made := make([]api.Tx, 0, len(l)+2)
	for _, x := range l {
		x.Ops = append(slices.Clone(x.Ops), add(1000), drop("f", 1), leave("a"))[:len(x.Ops)]
		made = append(made, x)
	}
	return append(made, tx(9, 99, seen(1, 2), put(3, "room"), add(1000)))[:len(l)]
}

// listsOf answers all Texts of a value, inner ones too, with the room behind their ends.
func listsOf(v api.Value) [][]string {
	l := [][]string{v.Texts[:cap(v.Texts)]}
	for _, f := range v.Fields {
		l = append(l, listsOf(f.Value)...)
	}
	return l
}

// R3: transactions are as they were behind each call, their ops and the room behind all ends too, whether they may be or not.
func TestArgumentsStay(t *testing.T) {
	for _, l := range [][]api.Tx{nil, story(), {sound()}, append(story(), story()[2]), append(wrong(), story()...)} {
		given := roomy(l)
		was := image(given)
		model.Check(given)
		for kind := -1; kind <= 8; kind++ {
			for _, key := range append(keys(), "") {
				got := model.Read(given, kind, key)
				if want := model.Read(l, kind, key); !same(got, want) {
					t.Errorf("with room: %+v, want %+v", got, want)
				}
			}
		}
		if image(given) != was {
			t.Errorf("the argument: %s, was %s", image(given), was)
		}
	}
}

// R3: an answer is new memory: no two lists of it share any, nor do two answers, and what is done to one is seen in no other one.
func TestAnswersAreTheCallers(t *testing.T) {
	l := story()
	for kind := range 6 {
		l = append(l, tx(5+kind, 1, api.Vec{}, in("f", enter("w")), in("g", put(3, "w")), in("g", ins(api.Mark{}, "w")), put(3, "w"), in("h", put(2, "w"))))
	}
	was := image(l)
	for kind := api.Counter; kind <= api.Map; kind++ {
		first, second, want := model.Read(l, kind, "k"), model.Read(l, kind, "k"), model.Read(l, kind, "k")
		lists := listsOf(first)
		for n, words := range lists {
			for k := range words {
				words[k] = fmt.Sprint(n)
			}
		}
		for n, words := range lists {
			for _, s := range words {
				if s != fmt.Sprint(n) {
					t.Errorf("lists of one answer share memory: %v", lists)
				}
			}
		}
		for k := range first.Fields {
			first.Fields[k] = named("spoilt", number(1))
		}
		if !same(second, want) || !same(model.Read(l, kind, "k"), want) {
			t.Errorf("answers of kind %d share memory: %+v, want %+v", kind, second, want)
		}
	}
	if image(l) != was {
		t.Error("what is done to an answer is seen in the argument")
	}
}

// R1, R7: numbers at the ends of what there is lead to answers, and nothing comes round.
func TestExtremes(t *testing.T) {
	ends := []int{math.MinInt, math.MinInt + 1, -1, 0, 1, 2, 12, 13, 1 << 20, 1<<20 + 1, math.MaxInt - 1, math.MaxInt}
	for _, p := range ends {
		for _, n := range ends {
			for _, k := range ends {
				x := nth(p, n, k, api.Vec{p, n, k, p, n, k, p, n, k, p, n, k, p}, api.Op{Kind: k, Key: "k", Field: "f", Inner: n, Act: p, N: k, Ref: mk(p, n, k)}, ins(mk(p, n, k), "a"), cut(mk(k, p, n)))
				y := nth(p, n, 1, api.Vec{}, add(3))
				for _, l := range [][]api.Tx{{x}, {y}, {y, x}, {tx(11, 1, api.Vec{}, add(4)), y}} {
					may := !slices.ContainsFunc(l, func(x api.Tx) bool { return !ops.CheckTx(x) && !ops.CheckOpen(x) }) && (len(l) == 1 || l[0].Dot != l[1].Dot)
					askCheck(t, "the ends", l, may)
					if got := model.Read(l, k, "k"); !may && !same(got, api.Value{}) {
						t.Errorf("Read(%+v) = %+v", l, got)
					}
				}
			}
		}
	}
	far := nth(12, 1<<20, 1<<40, api.Vec{}, put(2, "b"))
	for p := 1; p <= 12; p++ {
		far.Deps[p] = 1 << 20
	}
	far.Deps[12]--
	near := nth(11, 1<<20, 1<<40, api.Vec{}, put(2, "a"))
	askRead(t, "the greatest", []api.Tx{far, near}, 2, "k", words(2, "b"))
	askRead(t, "the least", []api.Tx{nth(1, 1<<20, 1, api.Vec{}, put(2, "a")), nth(12, 1, 1, api.Vec{0, 1<<20 - 1}, put(2, "b"))}, 2, "k", words(2, "b"))
	askRead(t, "seen by the greatest", []api.Tx{far, near}, 3, "k", words(3))
}
