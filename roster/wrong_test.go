package roster_test

import (
	"math"
	"slices"
	"testing"

	"plexus/api"
	"plexus/ops"
	"plexus/roster"
)

// wrong are lists that may not be: that do not rise, name a number twice, or a number below 1 or beyond MaxPeers, at each place.
func wrong() [][]int {
	l := [][]int{
		{2, 1}, {12, 1}, {3, 2, 1}, {1, 3, 2}, {2, 1, 3}, {1, 2, 3, 4, 6, 5}, {12, 11, 10, 9, 8, 7, 6, 5, 4, 3, 2, 1},
		{1, 1}, {12, 12}, {1, 1, 2}, {1, 2, 2}, {1, 2, 1}, {1, 2, 3, 3, 4}, append(everyone(), 12), append(everyone(), 1), append([]int{1}, everyone()...),
		{0, 0}, {13, 13}, append(everyone(), 13), append([]int{0}, everyone()...), slices.Repeat([]int{1}, 5000), slices.Repeat(everyone(), 500),
	}
	for _, n := range []int{0, -1, -12, 13, 14, 1 << 20, math.MinInt, math.MaxInt} {
		l = append(l, []int{n})
		for place := range 4 {
			l = append(l, slices.Insert([]int{2, 5, 12}, place, n))
		}
	}
	return l
}

// turned answers a transaction that may be, but for what turn does to it; it names numbers by either act.
func turned(turn func(*api.Tx)) api.Tx {
	x := tx(join(3), leave(1), others()[0], join(8))
	turn(&x)
	return x
}

// wrongOps are ops that may not be: of the roster, with a number that no peer has, another act, or what such ops do not use; of no kind; of others.
func wrongOps() []api.Op {
	l := []api.Op{
		join(0), join(13), join(-1), join(math.MinInt), join(math.MaxInt), leave(0), leave(13), leave(-1), leave(math.MinInt), leave(math.MaxInt),
		{Kind: 7, Act: 1, N: 2, Key: "k"}, {Kind: 7, Act: 1, N: 2, Field: "f"}, {Kind: 7, Act: 2, N: 2, Inner: 1}, {Kind: 7, Act: 2, N: 2, Text: "t"},
		{Kind: 7, Act: 1, N: 2, Ref: api.Mark{Index: 1}}, {Kind: 7, Act: 2, N: 2, Ref: api.Mark{Dot: api.Dot{Peer: 1, Seq: 1}, Index: 1}},
		{}, {Kind: 1}, {Kind: 1, Act: 1, N: 2}, {Kind: 4, Key: "k", Act: 1, N: 2}, {Kind: 6, Key: "k", Act: 1, N: 2}, {Kind: 6, Key: "k", Field: "f", Inner: 7, Act: 1, N: 2},
		{Kind: 5, Key: "k", Act: 2, Ref: api.Mark{Dot: api.Dot{Peer: 2, Seq: 1}, Index: 1}},
	}
	for _, act := range []int{math.MinInt, -1, 0, 3, 4, 5, 6, math.MaxInt} {
		l = append(l, api.Op{Kind: 7, Act: act, N: 2})
	}
	for _, kind := range []int{math.MinInt, -1, 0, 2, 8, math.MaxInt} {
		l = append(l, api.Op{Kind: kind, Act: 1, N: 2}, api.Op{Kind: kind, Key: "k", Act: 1, N: 2})
	}
	return l
}

// open are transactions without a name, which CheckOpen takes and CheckTx does not.
func open() []api.Tx {
	return []api.Tx{
		turned(func(x *api.Tx) { x.Dot = api.Dot{} }),
		turned(func(x *api.Tx) { x.Dot, x.Ops = api.Dot{}, nil }),
		turned(func(x *api.Tx) { x.Dot, x.Deps, x.Time = api.Dot{}, api.Vec{}, 1<<40 }),
		turned(func(x *api.Tx) { x.Dot, x.Ops = api.Dot{}, slices.Repeat([]api.Op{join(4), leave(5)}, opsMost/2) }),
	}
}

// wrongTxs are transactions that CheckTx does not take, for each reason of chapter 7; a wrong op stands ahead of the others, between and behind them.
func wrongTxs() []api.Tx {
	l := append(open(), api.Tx{}, api.Tx{Ops: joins(2)})
	for _, d := range []api.Dot{{Peer: 9}, {Seq: 3}, {Peer: 13, Seq: 3}, {Peer: -1, Seq: 3}, {Peer: 9, Seq: -1}, {Peer: 9, Seq: 1<<20 + 1}, {Peer: 9, Seq: 2}, {Peer: math.MinInt, Seq: math.MinInt}, {Peer: math.MaxInt, Seq: math.MaxInt}} {
		l = append(l, turned(func(x *api.Tx) { x.Dot = d }))
	}
	for p := range peersMost + 1 {
		for _, n := range []int{-1, 1<<20 + 1, math.MinInt, math.MaxInt} {
			l = append(l, turned(func(x *api.Tx) { x.Deps[p] = n }))
		}
	}
	l = append(l, turned(func(x *api.Tx) { x.Deps[0] = 1 }), turned(func(x *api.Tx) { x.Deps[9] = 3 }))
	for _, time := range []int{0, -1, 1<<40 + 1, math.MinInt, math.MaxInt} {
		l = append(l, turned(func(x *api.Tx) { x.Time = time }))
	}
	for _, n := range []int{0, opsMost + 1, opsMost + 2, 1000} {
		l = append(l, turned(func(x *api.Tx) { x.Ops = slices.Repeat(joins(4), n) }), turned(func(x *api.Tx) { x.Ops = slices.Repeat(leaves(4), n) }))
	}
	for _, o := range wrongOps() {
		for place := range 5 {
			l = append(l, turned(func(x *api.Tx) { x.Ops = slices.Insert(x.Ops, place, o) }))
		}
	}
	return l
}

// P18.1: a list that may not be, as joined, as left and as both: Check is false, Apply answers both as they are, whatever the transaction; nobody is Live, and the Epoch is 0.
func TestWrongLists(t *testing.T) {
	txs := []api.Tx{turned(func(*api.Tx) {}), tx(joins(1, 2)...), tx(leaves(1, 2)...), tx(others()...), {}, open()[0]}
	for _, l := range wrong() {
		askCheck(t, l, false)
		pairs := [][2][]int{{l, l}}
		for _, other := range append(some(), wrong()...) {
			pairs = append(pairs, [2][]int{l, other}, [2][]int{other, l})
		}
		for _, pair := range pairs {
			askLive(t, pair[0], pair[1], nil)
			askEpoch(t, pair[0], pair[1], 0)
			for _, x := range txs {
				askApply(t, pair[0], pair[1], x, pair[0], pair[1])
			}
		}
	}
}

// P18.1: of a transaction that CheckTx does not take, also if CheckOpen takes it, both lists are answered as they are; without what is wrong with it, it changes them.
func TestWrongTransactions(t *testing.T) {
	askApply(t, []int{1}, []int{6}, turned(func(*api.Tx) {}), []int{1, 3, 8}, []int{1, 6})
	for _, x := range open() {
		if !ops.CheckOpen(x) {
			t.Errorf("%+v is none that is open", x)
		}
	}
	for _, x := range wrongTxs() {
		if ops.CheckTx(x) {
			t.Errorf("%+v may be", x)
		}
		for _, joined := range some() {
			for _, left := range some() {
				askApply(t, joined, left, x, joined, left)
			}
		}
	}
}

// roomy answers a list with room behind its end, which is filled so that what is written there is seen.
func roomy[T any](l []T, filling T) []T {
	all := append(slices.Clone(l), filling, filling, filling)
	return all[:len(l)]
}

// whole answers a list with all its room.
func whole[T any](l []T) []T {
	return l[:cap(l)]
}

// shared tells whether two lists have memory in common, the room behind their ends too.
func shared(a []int, b []int) bool {
	a, b = whole(a), whole(b)
	for i := range a {
		for k := range b {
			if &a[i] == &b[k] {
				return true
			}
		}
	}
	return false
}

// askApart asks whether no two of several lists have memory in common.
func askApart(t *testing.T, lists ...[]int) {
	t.Helper()
	for i, a := range lists {
		for k, b := range lists[:i] {
			if shared(a, b) {
				t.Fatalf("the lists %d and %d of %v share memory", k, i, lists)
			}
		}
	}
}

// R3: arguments are as they were behind each call, what stands behind their ends too, and no answer shares memory with them, with another answer, or with the other list of one answer: of lists and transactions that may be, and of those that may not.
func TestArgumentsAndAnswers(t *testing.T) {
	lists := append(some(), []int{2, 1}, []int{1, 1}, []int{0}, []int{13, 1})
	for _, a := range lists {
		for _, b := range lists {
			for _, x := range []api.Tx{tx(append(joins(2, 1), leaves(12, 3)...)...), tx(others()...), tx(joins(1)...), open()[0], {}} {
				joined, left := roomy(a, 77), roomy(b, 88)
				x.Ops = roomy(x.Ops, join(9))
				was := [][]int{slices.Clone(whole(joined)), slices.Clone(whole(left))}
				deeds, given := slices.Clone(whole(x.Ops)), x
				roster.Check(joined)
				roster.Epoch(joined, left)
				in, out := roster.Apply(joined, left, x)
				again, gone := roster.Apply(joined, left, x)
				askApart(t, joined, left, in, out, again, gone, roster.Live(joined, left), roster.Live(joined, left))
				if !slices.Equal(whole(joined), was[0]) || !slices.Equal(whole(left), was[1]) {
					t.Fatalf("%v and %v were %v", whole(joined), whole(left), was)
				}
				if !slices.Equal(whole(x.Ops), deeds) || x.Dot != given.Dot || x.Deps != given.Deps || x.Time != given.Time {
					t.Fatalf("%+v was %+v", x, given)
				}
			}
		}
	}
}

// R3: one list that is handed in as both is answered as two.
func TestOneListAsBoth(t *testing.T) {
	for _, l := range append(some(), []int{2, 1}, []int{13}) {
		for _, x := range []api.Tx{tx(join(2), leave(3)), tx(others()...), {}} {
			given := roomy(l, 77)
			in, out := roster.Apply(given, given, x)
			askApart(t, given, in, out)
			want, gone := wantApply(l, l, x)
			if !slices.Equal(in, want) || !slices.Equal(out, gone) || !slices.Equal(given, l) {
				t.Errorf("Apply of %v twice, now %v: %v, %v", l, given, in, out)
			}
		}
		askLive(t, l, l, nil)
	}
}

// R3: what is done to an answer is seen neither in what was handed in, nor in what is answered next.
func TestAnswersAreTheCallers(t *testing.T) {
	joined, left := []int{1, 4}, []int{4}
	for _, x := range []api.Tx{tx(join(2), leave(1)), tx(others()...), {}} {
		want, gone := wantApply([]int{1, 4}, []int{4}, x)
		for range 3 {
			askApply(t, joined, left, x, want, gone)
			in, out := roster.Apply(joined, left, x)
			in[0], out[0] = 99, 98
			live := roster.Live(joined, left)
			live[0] = 97
			askLive(t, joined, left, []int{1})
			askEpoch(t, joined, left, 3)
		}
	}
}
