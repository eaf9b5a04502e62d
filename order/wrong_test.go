package order_test

import (
	"math"
	"math/rand"
	"slices"
	"testing"

	"plexus/api"
	"plexus/ops"
	"plexus/order"
)

// turned answers a transaction that may be, and is Ready of sound's vector, but for what turn does to it.
func turned(turn func(*api.Tx)) api.Tx {
	x := tx(9, 3, api.Vec{1: 4, 5: 1, 9: 2, 12: 7}, "a", "b")
	turn(&x)
	return x
}

// sound answers the vector of which what turned answers is Ready.
func sound() api.Vec {
	return api.Vec{1: 4, 5: 1, 9: 2, 12: 7}
}

// open are transactions without a name, which CheckOpen takes and CheckTx does not.
func open() []api.Tx {
	return []api.Tx{
		turned(func(x *api.Tx) { x.Dot = api.Dot{} }),
		turned(func(x *api.Tx) { x.Dot, x.Ops = api.Dot{}, nil }),
		turned(func(x *api.Tx) { x.Dot, x.Deps, x.Time = api.Dot{}, api.Vec{}, 1<<40 }),
		turned(func(x *api.Tx) { x.Dot, x.Ops = api.Dot{}, slices.Repeat([]api.Op{add(4)}, opsMost) }),
	}
}

// wrongOps are ops that may not be, or not there: of no kind, with an act that does not fit, with what is not used, with a Ref that was not seen.
func wrongOps() []api.Op {
	return []api.Op{
		{}, {Kind: 1}, {Kind: 1, Act: 1, N: 2}, {Kind: 8, Key: "k", Act: 1, N: 2}, {Kind: 7, Act: 1, N: 13}, {Kind: 7, Act: 3, N: 1},
		{Kind: 1, Key: "k", Act: 1, N: 2, Text: "t"}, {Kind: 4, Key: "k", Act: 4, Text: "t"}, {Kind: 1, Key: "k", Act: 1, N: 1<<30 + 1},
		{Kind: 5, Key: "k", Act: 2, Ref: api.Mark{Dot: api.Dot{Peer: 2, Seq: 1}, Index: 1}},
		{Kind: 5, Key: "k", Act: 4, Ref: api.Mark{Dot: api.Dot{Peer: 9, Seq: 3}, Index: 9}},
		{Kind: 5, Key: "k", Act: 2},
	}
}

// wrongNames are transactions that CheckTx does not take for their Dots: no peer's, none that a peer may have, one that the transaction itself has seen.
func wrongNames() []api.Tx {
	var l []api.Tx
	for _, d := range []api.Dot{
		{}, {Peer: 9}, {Seq: 3}, {Seq: 1}, {Peer: 13, Seq: 3}, {Peer: 13, Seq: 1}, {Peer: -1, Seq: 3}, {Peer: -1, Seq: 1}, {Peer: 9, Seq: -1}, {Peer: 9, Seq: seqMost + 1},
		{Peer: 9, Seq: 2}, {Peer: 1, Seq: 4}, {Peer: math.MinInt, Seq: math.MinInt}, {Peer: math.MaxInt, Seq: math.MaxInt}, {Peer: 9, Seq: math.MinInt}, {Peer: 9, Seq: math.MaxInt}, {Peer: math.MaxInt, Seq: 1},
	} {
		l = append(l, turned(func(x *api.Tx) { x.Dot = d }))
	}
	return l
}

// wrongBodies are transactions that CheckTx does not take, for each other reason of chapter 7; all have the same Dot, 9 3.
func wrongBodies() []api.Tx {
	var l []api.Tx
	for p := range peersMost + 1 {
		for _, n := range []int{-1, seqMost + 1, math.MinInt, math.MaxInt} {
			l = append(l, turned(func(x *api.Tx) { x.Deps[p] = n }))
		}
	}
	l = append(l, turned(func(x *api.Tx) { x.Deps[0] = 1 }), turned(func(x *api.Tx) { x.Deps[9] = 3 }), turned(func(x *api.Tx) { x.Deps[9] = 4 }))
	for _, time := range []int{0, -1, 1<<40 + 1, math.MinInt, math.MaxInt} {
		l = append(l, turned(func(x *api.Tx) { x.Time = time }))
	}
	for _, n := range []int{0, opsMost + 1, opsMost + 2, 1000} {
		l = append(l, turned(func(x *api.Tx) { x.Ops = slices.Repeat([]api.Op{add(4)}, n) }))
	}
	for _, o := range wrongOps() {
		for place := range 4 {
			l = append(l, turned(func(x *api.Tx) { x.Ops = slices.Insert(x.Ops, place, o) }))
		}
	}
	return l
}

// wrong are all transactions that CheckTx does not take.
func wrong() []api.Tx {
	return slices.Concat(open(), []api.Tx{{}, {Dot: api.Dot{Peer: 9, Seq: 3}}}, wrongNames(), wrongBodies())
}

// wrongVecs are vectors that do not Check: below 0 and beyond MaxSeq at each place, and something at 0.
func wrongVecs() []api.Vec {
	l := []api.Vec{{0: 1}, {0: seqMost}}
	for p := range peersMost + 1 {
		for _, n := range []int{-1, -2, seqMost + 1, math.MinInt, math.MaxInt} {
			v := sound()
			v[p] = n
			l = append(l, v)
		}
	}
	return l
}

// P19.1, P19.2: of a transaction that CheckTx does not take, also if CheckOpen takes it: it is not Ready, Offer is ErrForm without a list, and nothing is Closed with it; without what is wrong with it, it is Ready.
func TestWrongTransactions(t *testing.T) {
	right := turned(func(*api.Tx) {})
	askReady(t, sound(), right, true)
	askOffer(t, sound(), nil, right, []api.Tx{right}, 0)
	for _, x := range open() {
		if !ops.CheckOpen(x) {
			t.Errorf("%+v is none that is open", x)
		}
	}
	for _, x := range wrong() {
		if ops.CheckTx(x) {
			t.Errorf("%+v may be", x)
		}
		for _, v := range append(wrongVecs(), sound(), api.Vec{}) {
			askReady(t, v, x, false)
		}
		askOffer(t, sound(), nil, x, nil, 3)
		askOffer(t, sound(), waiting(), x, nil, 3)
		askClosed(t, []api.Tx{x}, false)
		askClosed(t, []api.Tx{tx(1, 1, api.Vec{}), x}, false)
		askClosed(t, []api.Tx{x, tx(1, 1, api.Vec{})}, false)
	}
}

// P19.1: of one that would be Ready of zeros but for one thing, Ready and Closed are false.
func TestWrongFromZeros(t *testing.T) {
	right := tx(3, 1, api.Vec{})
	askReady(t, api.Vec{}, right, true)
	askClosed(t, []api.Tx{right}, true)
	for _, turn := range []func(*api.Tx){
		func(x *api.Tx) { x.Time = 0 },
		func(x *api.Tx) { x.Ops = nil },
		func(x *api.Tx) { x.Ops = []api.Op{{}} },
		func(x *api.Tx) { x.Deps[0] = -1 },
		func(x *api.Tx) { x.Deps[3] = -1 },
		func(x *api.Tx) { x.Dot.Peer = 0 },
		func(x *api.Tx) { x.Dot.Peer = 13 },
		func(x *api.Tx) { x.Dot = api.Dot{} },
	} {
		x := tx(3, 1, api.Vec{})
		turn(&x)
		askReady(t, api.Vec{}, x, false)
		askClosed(t, []api.Tx{x}, false)
		askDrain(t, api.Vec{}, []api.Tx{x, right}, []api.Tx{right}, onlyOthers(x, right.Dot), api.Vec{3: 1})
	}
}

// onlyOthers answers a transaction alone, unless it has a Dot.
func onlyOthers(x api.Tx, d api.Dot) []api.Tx {
	if x.Dot == d {
		return nil
	}
	return []api.Tx{x}
}

// P19.2: one that does not Check waits on, at each place among others, and keeps none of these back; if its Dot is had, or comes to be, it goes.
func TestWrongOnesThatWait(t *testing.T) {
	others := []api.Tx{tx(1, 5, api.Vec{}), tx(9, 4, api.Vec{9: 3}), turned(func(*api.Tx) {}), tx(12, 9, api.Vec{})}
	delivered, have := []api.Tx{others[0], others[2], others[1]}, api.Vec{1: 5, 5: 1, 9: 4, 12: 7}
	for _, x := range wrong() {
		goes := had(have, x.Dot)
		for place := range len(others) + 1 {
			l := slices.Insert(slices.Clone(others), place, x)
			var left []api.Tx
			for k, other := range l {
				if k == place && !goes || other.Dot == others[3].Dot {
					left = append(left, other)
				}
			}
			askDrain(t, sound(), l, delivered, left, have)
		}
		alone := []api.Tx{x, x}
		if had(sound(), x.Dot) {
			alone = nil
		}
		askDrain(t, sound(), []api.Tx{x, x}, nil, alone, sound())
	}
}

// P19.1: one that does not Check waits all the same: one of its Dot is refused, and others stand in their places by its Dot.
func TestOfferToWrongOnes(t *testing.T) {
	right := turned(func(*api.Tx) {})
	for _, x := range wrongBodies() {
		askOffer(t, sound(), []api.Tx{x}, right, nil, 8)
		next, last := tx(9, 4, api.Vec{}), tx(8, seqMost, api.Vec{})
		askOffer(t, sound(), []api.Tx{x}, next, []api.Tx{x, next}, 0)
		askOffer(t, sound(), []api.Tx{x}, last, []api.Tx{last, x}, 0)
	}
	for _, x := range append(wrongNames(), open()...) {
		want := []api.Tx{x, right}
		if x.Dot.Peer > 9 || x.Dot.Peer == 9 && x.Dot.Seq > 3 {
			want = []api.Tx{right, x}
		}
		askOffer(t, sound(), []api.Tx{x}, right, want, 0)
	}
}

// P19.1: those that wait out of order, twice of one Dot, with Dots that the vector has, stay as they stand; the one that is offered stands ahead of the first one that it is ahead of.
func TestOfferToListsOutOfOrder(t *testing.T) {
	a, b, c, d := tx(2, 2, api.Vec{}, "a"), tx(4, 1, api.Vec{}), tx(4, 3, api.Vec{}), tx(8, 2, api.Vec{})
	twin := tx(2, 2, api.Vec{1: 1}, "twin")
	for _, s := range []struct {
		l    []api.Tx
		x    api.Tx
		want []api.Tx
	}{
		{[]api.Tx{d, a}, b, []api.Tx{b, d, a}},
		{[]api.Tx{a, d, c}, b, []api.Tx{a, b, d, c}},
		{[]api.Tx{c, b, a}, d, []api.Tx{c, b, a, d}},
		{[]api.Tx{d, c, b}, a, []api.Tx{a, d, c, b}},
		{[]api.Tx{b, a, d}, c, []api.Tx{b, a, c, d}},
		{[]api.Tx{a, twin, d}, b, []api.Tx{a, twin, b, d}},
		{[]api.Tx{d, a, d, twin}, c, []api.Tx{c, d, a, d, twin}},
		{[]api.Tx{tx(5, 1, api.Vec{}), d}, c, []api.Tx{c, tx(5, 1, api.Vec{}), d}},
	} {
		askOffer(t, api.Vec{5: 3}, s.l, s.x, s.want, 0)
		for _, x := range s.l {
			askOffer(t, api.Vec{5: 3}, s.l, x, nil, 8)
		}
	}
}

// P19.1, R2: several errors at once: the first one that the chapter names, and no list beside it.
func TestSeveralErrors(t *testing.T) {
	full := many(pendingMost)
	for _, s := range []struct {
		what  string
		v     api.Vec
		l     []api.Tx
		x     api.Tx
		errno api.Errno
	}{
		{"wrong alone", api.Vec{}, nil, turned(func(x *api.Tx) { x.Time = 0 }), 3},
		{"wrong and had", api.Vec{9: 3}, nil, turned(func(x *api.Tx) { x.Time = 0 }), 3},
		{"wrong and waiting", api.Vec{}, []api.Tx{turned(func(x *api.Tx) {})}, turned(func(x *api.Tx) { x.Time = 0 }), 3},
		{"wrong and waiting just so", api.Vec{}, []api.Tx{turned(func(x *api.Tx) { x.Time = 0 })}, turned(func(x *api.Tx) { x.Time = 0 }), 3},
		{"wrong and full", api.Vec{}, full, turned(func(x *api.Tx) { x.Ops = nil }), 3},
		{"wrong, had, waiting and full", api.Vec{2: 2}, full, api.Tx{Dot: full[0].Dot}, 3},
		{"open and full", api.Vec{}, full, open()[0], 3},
		{"had alone", api.Vec{9: 3}, nil, turned(func(*api.Tx) {}), 8},
		{"had and full", api.Vec{9: 3}, full, turned(func(*api.Tx) {}), 8},
		{"the first that waits, and full", api.Vec{}, full, full[0], 8},
		{"the last that waits, and full", api.Vec{}, full, full[pendingMost-1], 8},
		{"the last that waits, beyond what may wait", api.Vec{}, many(50), many(50)[49], 8},
		{"had, waiting and full", api.Vec{2: 5}, full, full[0], 8},
		{"full alone", api.Vec{}, full, turned(func(*api.Tx) {}), 4},
		{"full of one that is had, over and over", api.Vec{1: 1}, slices.Repeat([]api.Tx{tx(1, 1, api.Vec{})}, pendingMost), turned(func(*api.Tx) {}), 4},
		{"full of wrong ones", api.Vec{}, make([]api.Tx, pendingMost), turned(func(*api.Tx) {}), 4},
	} {
		t.Run(s.what, func(t *testing.T) {
			askOffer(t, s.v, s.l, s.x, nil, s.errno)
			if got, _ := order.Offer(s.v, s.l, s.x); len(got) != 0 {
				t.Errorf("%v stand beside the error", dots(got))
			}
		})
	}
	askOffer(t, api.Vec{1: 1}, slices.Repeat([]api.Tx{tx(1, 1, api.Vec{})}, pendingMost-1), turned(func(*api.Tx) {}), append(slices.Repeat([]api.Tx{tx(1, 1, api.Vec{})}, pendingMost-1), turned(func(*api.Tx) {})), 0)
}

// P19.1, P19.2: a vector that does not Check is asked no more than any other one: who is next, whose Deps are Leq it, what it Has.
func TestWrongVectors(t *testing.T) {
	seen := turned(func(*api.Tx) {})
	l := []api.Tx{tx(1, 5, api.Vec{}), tx(3, 1, api.Vec{}), tx(3, 2, api.Vec{1: 5}), seen, tx(12, 8, api.Vec{}), tx(12, seqMost, api.Vec{})}
	for _, v := range wrongVecs() {
		for _, x := range l {
			askReady(t, v, x, wantReady(v, x))
			want, errno := wantOffer(v, waiting(), x)
			askOffer(t, v, waiting(), x, want, errno)
		}
		want, left, have := wantDrain(v, l)
		askDrain(t, v, l, want, left, have)
	}
	for _, s := range []struct {
		v    api.Vec
		want []api.Tx
		left []api.Tx
		have api.Vec
	}{
		{api.Vec{0: -1}, nil, l, api.Vec{0: -1}},
		{api.Vec{7: -1}, nil, l, api.Vec{7: -1}},
		{api.Vec{3: -1}, nil, l, api.Vec{3: -1}},
		{api.Vec{3: math.MinInt}, nil, l, api.Vec{3: math.MinInt}},
		{api.Vec{0: 1}, l[1:2], append([]api.Tx{l[0]}, l[2:]...), api.Vec{0: 1, 3: 1}},
		{api.Vec{1: 4, 12: math.MaxInt}, l[:3], l[3:4], api.Vec{1: 5, 3: 2, 12: math.MaxInt}},
		{api.Vec{1: seqMost + 1}, l[1:3], l[3:], api.Vec{1: seqMost + 1, 3: 2}},
	} {
		askDrain(t, s.v, l, s.want, s.left, s.have)
	}
}

// P19.2: any list at all, of transactions that Check and that do not, out of order, several of one Dot, upon any vector, against the document's words.
func TestAnyLists(t *testing.T) {
	r := rand.New(rand.NewSource(195))
	bad, vecs := wrong(), append(wrongVecs(), sound(), sound(), sound(), api.Vec{})
	for range 4000 {
		var l []api.Tx
		for range r.Intn(2 * pendingMost) {
			switch r.Intn(4) {
			case 0:
				l = append(l, bad[r.Intn(len(bad))])
			default:
				p := 1 + r.Intn(peersMost)
				l = append(l, tx(p, 1+sound()[p]+r.Intn(3)-r.Intn(2), api.Vec{1: r.Intn(6), 12: r.Intn(9)}))
			}
		}
		v := vecs[r.Intn(len(vecs))]
		want, left, have := wantDrain(v, l)
		askDrain(t, v, l, want, left, have)
		askDrain(t, have, left, nil, left, have)
		x := tx(1+r.Intn(peersMost), 1+r.Intn(9), api.Vec{})
		list, errno := wantOffer(v, l, x)
		askOffer(t, v, l, x, list, errno)
		from, _, _ := order.Drain(api.Vec{}, l)
		askClosed(t, from, true)
	}
}

// roomy answers a list with room behind its end, which is filled so that what is written there is seen; the ops of its transactions have such room, too.
func roomy(l []api.Tx) []api.Tx {
	var all []api.Tx
	for _, x := range l {
		all = append(all, roomyTx(x))
	}
	filling := roomyTx(tx(6, 66, api.Vec{}))
	return append(all, filling, filling, filling)[:len(l)]
}

// roomyTx answers a transaction whose ops have room behind their end, which is filled.
func roomyTx(x api.Tx) api.Tx {
	x.Ops = append(slices.Clone(x.Ops), add(77), add(78))[:len(x.Ops)]
	return x
}

// whole answers a list with all its room, and that of its transactions' ops, made anew.
func whole(l []api.Tx) []api.Tx {
	all := slices.Clone(l[:cap(l)])
	for k, x := range all {
		all[k].Ops = slices.Clone(x.Ops[:cap(x.Ops)])
	}
	return all
}

// memory answers where the transactions of a list stand, and their ops, the room behind their ends included: how often each.
func memory(l []api.Tx) (map[*api.Tx]int, map[*api.Op]int) {
	txs, deeds := map[*api.Tx]int{}, map[*api.Op]int{}
	l = l[:cap(l)]
	for k := range l {
		txs[&l[k]]++
		room := l[k].Ops[:cap(l[k].Ops)]
		for i := range room {
			deeds[&room[i]]++
		}
	}
	return txs, deeds
}

// askApart asks whether no two of several answers have memory in common, nor two transactions of one.
func askApart(t *testing.T, answers ...[]api.Tx) {
	t.Helper()
	txs, deeds := map[*api.Tx]int{}, map[*api.Op]int{}
	for _, l := range answers {
		more, done := memory(l)
		for at, n := range more {
			if txs[at] += n; txs[at] > 1 {
				t.Fatalf("%v shares transactions", dots(l))
			}
		}
		for at, n := range done {
			if deeds[at] += n; deeds[at] > 1 {
				t.Fatalf("%v shares ops", dots(l))
			}
		}
	}
}

// lists are what may wait: none, some, out of order, several of one Dot, had ones, wrong ones, as many as may and more.
func lists() [][]api.Tx {
	twin := tx(3, 1, api.Vec{}, "twin")
	return [][]api.Tx{
		nil, {}, waiting(), story(), {twin, twin, tx(3, 2, api.Vec{})}, {tx(3, 2, api.Vec{}), tx(1, 4, api.Vec{}), tx(3, 1, api.Vec{})},
		wrong(), slices.Concat(story(), open(), story()), many(pendingMost - 1), many(pendingMost), history(rand.New(rand.NewSource(3)), 4, 50),
	}
}

// R3: arguments are as they were behind each call, what stands behind their ends too, and no answer shares memory with them, with another answer, or with the other list of one answer.
func TestArgumentsAndAnswers(t *testing.T) {
	for _, l := range lists() {
		for _, x := range append(story(), tx(12, 9, api.Vec{}), turned(func(*api.Tx) {}), open()[0], api.Tx{}) {
			for _, v := range []api.Vec{{}, sound(), {0: -1}} {
				given, one := roomy(l), roomyTx(x)
				was, deeds := whole(given), whole([]api.Tx{one})
				order.Ready(v, one)
				order.Closed(given)
				offered, _ := order.Offer(v, given, one)
				again, _ := order.Offer(v, given, one)
				delivered, left, _ := order.Drain(v, given)
				more, rest, _ := order.Drain(v, given)
				if !same(whole(given), was) || !same(whole([]api.Tx{one}), deeds) {
					t.Fatalf("%v and %v are not as they were", dots(l), x.Dot)
				}
				askApart(t, offered, again, delivered, left, more, rest)
				for _, answer := range [][]api.Tx{offered, again, delivered, left, more, rest} {
					askNew(t, given, answer)
					askNew(t, []api.Tx{one}, answer)
				}
			}
		}
	}
}

// askNew asks whether an answer has no memory of what was handed in.
func askNew(t *testing.T, given []api.Tx, answer []api.Tx) {
	t.Helper()
	txs, deeds := memory(given)
	more, done := memory(answer)
	for at := range more {
		if txs[at] > 0 {
			t.Fatalf("%v has transactions of what was handed in", dots(answer))
		}
	}
	for at := range done {
		if deeds[at] > 0 {
			t.Fatalf("%v has ops of what was handed in", dots(answer))
		}
	}
}

// R3: transactions that are handed in with one list of ops are answered with one each.
func TestOpsOfOneList(t *testing.T) {
	deeds := []api.Op{add(1), add(2)}
	var l []api.Tx
	for p := 1; p <= 4; p++ {
		l = append(l, api.Tx{Dot: api.Dot{Peer: p, Seq: p/3*2 + 1}, Time: 1, Ops: deeds})
	}
	x := api.Tx{Dot: api.Dot{Peer: 2, Seq: 2}, Time: 1, Ops: deeds}
	offered, errno := order.Offer(api.Vec{}, l, x)
	if errno != 0 || len(offered) != 5 {
		t.Fatal(errno, dots(offered))
	}
	delivered, left, _ := order.Drain(api.Vec{}, offered)
	again, rest, _ := order.Drain(api.Vec{}, l)
	if len(delivered) != 3 || len(left) != 2 || len(again) != 2 || len(rest) != 2 {
		t.Fatal(dots(delivered), dots(left), dots(again), dots(rest))
	}
	askApart(t, offered, delivered, left, again, rest)
	for _, answer := range [][]api.Tx{offered, delivered, left, again, rest} {
		askNew(t, l, answer)
	}
}

// R3: what is done to an answer is seen neither in what was handed in, nor in what is answered next.
func TestAnswersAreTheCallers(t *testing.T) {
	spoil := func(l []api.Tx) {
		for k := range l {
			for i := range l[k].Ops {
				l[k].Ops[i] = api.Op{}
			}
			l[k] = api.Tx{}
		}
	}
	l, x := story()[1:], tx(7, 5, api.Vec{})
	for range 3 {
		want, errno := wantOffer(api.Vec{}, story()[1:], tx(7, 5, api.Vec{}))
		spoil(askOffer(t, api.Vec{}, l, x, want, errno))
		delivered, left, v := wantDrain(api.Vec{1: 1}, story()[1:])
		askDrain(t, api.Vec{1: 1}, l, delivered, left, v)
		got, _, _ := order.Drain(api.Vec{1: 1}, l)
		spoil(got)
		_, waits, _ := order.Drain(api.Vec{}, l)
		spoil(waits)
	}
}

// R8: the same call answers the same, however often.
func TestTheSameAgain(t *testing.T) {
	l := history(rand.New(rand.NewSource(5)), peersMost, 80)
	slices.Reverse(l)
	want, left, v := wantDrain(api.Vec{}, l)
	for range 100 {
		askDrain(t, api.Vec{}, l, want, left, v)
	}
}
