package roster_test

import (
	"math"
	"slices"
	"testing"

	"plexus/api"
	"plexus/ops"
	"plexus/roster"
)

// peersMost is the greatest number of a peer, and opsMost how many ops a transaction has at most, as the document has them.
const (
	peersMost = 12
	opsMost   = 16
)

// join answers the op by which a peer joins.
func join(n int) api.Op {
	return api.Op{Kind: 7, Act: 1, N: n}
}

// leave answers the op by which a peer leaves.
func leave(n int) api.Op {
	return api.Op{Kind: 7, Act: 2, N: n}
}

// joins answers the ops by which several peers join.
func joins(numbers ...int) []api.Op {
	var l []api.Op
	for _, n := range numbers {
		l = append(l, join(n))
	}
	return l
}

// leaves answers the ops by which several peers leave.
func leaves(numbers ...int) []api.Op {
	var l []api.Op
	for _, n := range numbers {
		l = append(l, leave(n))
	}
	return l
}

// tx answers a transaction of peer 9 with these ops, which has seen some.
func tx(l ...api.Op) api.Tx {
	return api.Tx{Dot: api.Dot{Peer: 9, Seq: 3}, Deps: api.Vec{1: 4, 5: 1, 9: 2, 12: 7}, Time: 11, Ops: l}
}

// others are ops of other kinds, by every act, with all the numbers that they may have: none of them is of the roster, though some are ActAdd and ActDel.
func others() []api.Op {
	seen := api.Mark{Dot: api.Dot{Peer: 1, Seq: 2}, Index: 1}
	return []api.Op{
		{Kind: 1, Key: "7", Act: 1, N: 8}, {Kind: 1, Key: "k", Act: 1, N: 12}, {Kind: 1, Key: "k", Act: 1, N: -3},
		{Kind: 2, Key: "k", Act: 3, Text: "2"}, {Kind: 3, Key: "k", Act: 3, Text: "3"},
		{Kind: 4, Key: "k", Act: 1, Text: "4"}, {Kind: 4, Key: "k", Act: 2, Text: "4"},
		{Kind: 5, Key: "k", Act: 4, Text: "5"}, {Kind: 5, Key: "k", Act: 2, Ref: seen},
		{Kind: 6, Key: "k", Field: "f", Inner: 1, Act: 1, N: 6}, {Kind: 6, Key: "k", Field: "f", Inner: 4, Act: 2, Text: "6"}, {Kind: 6, Key: "k", Field: "f", Inner: 1, Act: 5},
	}
}

// numbers answers the list of those whose bits are set, that of 1 being the least one.
func numbers(bits int) []int {
	var l []int
	for n := 1; n <= peersMost; n++ {
		if bits>>(n-1)&1 == 1 {
			l = append(l, n)
		}
	}
	return l
}

// everyone answers 1 to MaxPeers.
func everyone() []int {
	return numbers(1<<peersMost - 1)
}

// some are lists that may be: none, one, all, and several of both ends and between.
func some() [][]int {
	return [][]int{nil, {}, {1}, {12}, {7}, {1, 12}, {2, 3}, {1, 2, 3}, {4, 9, 11}, {2, 4, 6, 8, 10, 12}, {1, 3, 5, 7, 9, 11}, {1, 2, 3, 4, 5, 6, 7, 8, 9, 10, 11}, {2, 3, 4, 5, 6, 7, 8, 9, 10, 11, 12}, everyone()}
}

// mayBe is the document's account of Check.
func mayBe(l []int) bool {
	for k, n := range l {
		if n < 1 || n > peersMost || k > 0 && n <= l[k-1] {
			return false
		}
	}
	return true
}

// named tells whether an op of the roster by an act names a number.
func named(x api.Tx, act int, n int) bool {
	return slices.ContainsFunc(x.Ops, func(o api.Op) bool {
		return o.Kind == 7 && o.Act == act && o.N == n
	})
}

// wantApply is the document's account of Apply, told number by number.
func wantApply(joined []int, left []int, x api.Tx) ([]int, []int) {
	if !mayBe(joined) || !mayBe(left) || !ops.CheckTx(x) {
		return joined, left
	}
	var in, out []int
	for n := 1; n <= peersMost; n++ {
		if slices.Contains(joined, n) || named(x, 1, n) {
			in = append(in, n)
		}
		if slices.Contains(left, n) || named(x, 2, n) {
			out = append(out, n)
		}
	}
	return in, out
}

// wantLive is the document's account of Live.
func wantLive(joined []int, left []int) []int {
	if !mayBe(joined) || !mayBe(left) {
		return nil
	}
	var l []int
	for n := 1; n <= peersMost; n++ {
		if slices.Contains(joined, n) && !slices.Contains(left, n) {
			l = append(l, n)
		}
	}
	return l
}

// askCheck asks Check.
func askCheck(t *testing.T, l []int, want bool) {
	t.Helper()
	if got := roster.Check(l); got != want {
		t.Errorf("Check(%v) = %v, want %v", l, got, want)
	}
}

// askApply asks Apply.
func askApply(t *testing.T, joined []int, left []int, x api.Tx, wantJoined []int, wantLeft []int) {
	t.Helper()
	in, out := roster.Apply(joined, left, x)
	if !slices.Equal(in, wantJoined) || !slices.Equal(out, wantLeft) {
		t.Errorf("Apply(%v, %v, %+v) = %v, %v, want %v, %v", joined, left, x, in, out, wantJoined, wantLeft)
	}
}

// askLive asks Live.
func askLive(t *testing.T, joined []int, left []int, want []int) {
	t.Helper()
	if got := roster.Live(joined, left); !slices.Equal(got, want) {
		t.Errorf("Live(%v, %v) = %v, want %v", joined, left, got, want)
	}
}

// askEpoch asks Epoch.
func askEpoch(t *testing.T, joined []int, left []int, want int) {
	t.Helper()
	if got := roster.Epoch(joined, left); got != want {
		t.Errorf("Epoch(%v, %v) = %v, want %v", joined, left, got, want)
	}
}

// P18.1: the chapter's example.
func TestExample(t *testing.T) {
	x := api.Tx{Dot: api.Dot{Peer: 1, Seq: 1}, Time: 1, Ops: joins(2)}
	askApply(t, []int{1}, nil, x, []int{1, 2}, nil)
	askLive(t, []int{1, 2}, nil, []int{1, 2})
	askEpoch(t, []int{1, 2}, nil, 2)
}

// The limits are those that the document names.
func TestLimits(t *testing.T) {
	if api.MaxPeers != peersMost || api.MaxOps != opsMost {
		t.Error(api.MaxPeers, api.MaxOps)
	}
}

// P18.1: each list of numbers that rise, from 1 to MaxPeers, Checks; none is none, nil or empty.
func TestCheckOfAllThatMayBe(t *testing.T) {
	askCheck(t, nil, true)
	askCheck(t, []int{}, true)
	for bits := range 1 << peersMost {
		askCheck(t, numbers(bits), true)
	}
}

// P18.1: Check of all lists of up to four numbers all around, against the document's words.
func TestCheckOfSmallLists(t *testing.T) {
	around := []int{math.MinInt, -12, -1, 0, 1, 2, 3, 6, 11, 12, 13, 14, math.MaxInt}
	lists := [][]int{nil}
	for range 4 {
		var longer [][]int
		for _, l := range lists {
			for _, n := range around {
				longer = append(longer, append(slices.Clip(l), n))
			}
		}
		for _, l := range longer {
			askCheck(t, l, mayBe(l))
		}
		lists = longer
	}
}

// P18.1, R7: of a list its length alone counts: what stands behind its end is not looked at.
func TestBehindTheEnd(t *testing.T) {
	all := []int{1, 4, 12, 3, 99, -1}
	askCheck(t, all, false)
	askCheck(t, all[:3], true)
	askCheck(t, all[:0], true)
	askApply(t, all[:2], all[1:3], tx(join(2), leave(5)), []int{1, 2, 4}, []int{4, 5, 12})
	askLive(t, all[:3], all[1:2], []int{1, 12})
	askEpoch(t, all[:3], all[1:2], 4)
}

// scene is a transaction upon two lists, and what comes of it: who joined, who left, who is Live, and the Epoch.
type scene struct {
	what   string
	joined []int
	left   []int
	ops    []api.Op
	in     []int
	out    []int
	live   []int
	epoch  int
}

// scenes are transactions that may be, and what comes of them, written out.
func scenes() []scene {
	return []scene{
		{"the first one", nil, nil, joins(1), []int{1}, nil, []int{1}, 1},
		{"one more, ahead of all", []int{2, 5}, nil, joins(1), []int{1, 2, 5}, nil, []int{1, 2, 5}, 3},
		{"one more, between", []int{2, 5}, nil, joins(4), []int{2, 4, 5}, nil, []int{2, 4, 5}, 3},
		{"one more, behind all", []int{2, 5}, nil, joins(12), []int{2, 5, 12}, nil, []int{2, 5, 12}, 3},
		{"several that do not rise", []int{5}, nil, joins(9, 2, 12, 7, 1), []int{1, 2, 5, 7, 9, 12}, nil, []int{1, 2, 5, 7, 9, 12}, 6},
		{"some that are there already", []int{2, 5}, []int{3}, joins(5, 6, 2, 6), []int{2, 5, 6}, []int{3}, []int{2, 5, 6}, 4},
		{"one twice", []int{2}, nil, joins(3, 3), []int{2, 3}, nil, []int{2, 3}, 2},
		{"one leaves", []int{1, 2, 3}, nil, leaves(2), []int{1, 2, 3}, []int{2}, []int{1, 3}, 4},
		{"several leave, some of whom had left", []int{1, 2, 3, 4}, []int{2}, leaves(4, 2, 1, 4), []int{1, 2, 3, 4}, []int{1, 2, 4}, []int{3}, 7},
		{"all leave", []int{1, 12}, nil, leaves(12, 1), []int{1, 12}, []int{1, 12}, nil, 4},
		{"some join and others leave", []int{1, 2}, []int{1}, []api.Op{join(7), leave(2), join(3)}, []int{1, 2, 3, 7}, []int{1, 2}, []int{3, 7}, 6},
		{"one joins and leaves", []int{1}, nil, []api.Op{join(2), leave(2)}, []int{1, 2}, []int{2}, []int{1}, 3},
		{"one leaves and joins", []int{1}, nil, []api.Op{leave(2), join(2)}, []int{1, 2}, []int{2}, []int{1}, 3},
		{"one that left joins again", []int{1, 2}, []int{2}, joins(2), []int{1, 2}, []int{2}, []int{1}, 3},
		{"one that left, and never joined", []int{1}, nil, leaves(6), []int{1}, []int{6}, []int{1}, 2},
		{"one joins that left, and had never joined", []int{1}, []int{6}, joins(6), []int{1, 6}, []int{6}, []int{1}, 3},
		{"none joined, one leaves", nil, nil, leaves(12), nil, []int{12}, nil, 1},
		{"among ops of other kinds", []int{1}, []int{11}, slices.Insert(others()[:11], 4, join(3), leave(1), join(10)), []int{1, 3, 10}, []int{1, 11}, []int{3, 10}, 5},
		{"ops of other kinds alone", []int{1, 5}, []int{5}, others(), []int{1, 5}, []int{5}, []int{1}, 3},
		{"the same by MaxOps ops", nil, nil, slices.Repeat(joins(4), opsMost), []int{4}, nil, []int{4}, 1},
		{"all join, some of them twice", nil, nil, append(joins(everyone()...), joins(12, 1, 6, 6)...), everyone(), nil, everyone(), 12},
		{"all leave, some of them twice", everyone(), nil, append(leaves(everyone()...), leaves(12, 1, 6, 6)...), everyone(), everyone(), nil, 24},
		{"all joined, all left", everyone(), everyone(), []api.Op{join(1), leave(12)}, everyone(), everyone(), nil, 24},
	}
}

// P18.1: Apply, and what Live and Epoch tell behind it, as written out.
func TestScenes(t *testing.T) {
	for _, s := range scenes() {
		t.Run(s.what, func(t *testing.T) {
			x := tx(s.ops...)
			if !ops.CheckTx(x) {
				t.Fatalf("%+v may not be", x)
			}
			askApply(t, s.joined, s.left, x, s.in, s.out)
			askApply(t, s.in, s.out, x, s.in, s.out)
			askLive(t, s.in, s.out, s.live)
			askEpoch(t, s.in, s.out, s.epoch)
		})
	}
}

// P18.1: each op of the roster alone, upon all pairs of some lists, at each place among others, against the document's words.
func TestApplyOfEachOp(t *testing.T) {
	for _, joined := range some() {
		for _, left := range some() {
			for n := 1; n <= peersMost; n++ {
				for _, o := range []api.Op{join(n), leave(n)} {
					alone := tx(o)
					in, out := wantApply(joined, left, alone)
					askApply(t, joined, left, alone, in, out)
					for place := range len(others()) + 1 {
						askApply(t, joined, left, tx(slices.Insert(others(), place, o)...), in, out)
					}
				}
			}
		}
	}
}

// P18.1: no op of another kind, by whatever act and with whatever number, changes a list, alone or with all others.
func TestOtherKindsChangeNothing(t *testing.T) {
	txs := []api.Tx{tx(others()...)}
	for _, o := range others() {
		txs = append(txs, tx(o), tx(slices.Repeat([]api.Op{o}, opsMost)...))
	}
	for n := -1; n <= peersMost+1; n++ {
		txs = append(txs, tx(api.Op{Kind: 1, Key: "k", Act: 1, N: n}, api.Op{Kind: 6, Key: "k", Field: "f", Inner: 1, Act: 1, N: n}))
	}
	for _, x := range txs {
		if !ops.CheckTx(x) {
			t.Fatalf("%+v may not be", x)
		}
		for _, joined := range some() {
			for _, left := range some() {
				askApply(t, joined, left, x, joined, left)
			}
		}
	}
}

// P18.1: whose transaction it is, how manieth, what it has seen and when it was made do not count.
func TestNamesDoNotCount(t *testing.T) {
	most := api.Vec{}
	for p := 1; p <= peersMost; p++ {
		most[p] = 1<<20 - 1
	}
	for p := 1; p <= peersMost; p++ {
		for _, deps := range []api.Vec{{}, most} {
			for _, time := range []int{1, 1 << 40} {
				x := api.Tx{Dot: api.Dot{Peer: p, Seq: 1 << 20}, Deps: deps, Time: time, Ops: []api.Op{join(3), leave(8)}}
				askApply(t, []int{6}, []int{6}, x, []int{3, 6}, []int{6, 8})
				x.Ops = others()[:8]
				askApply(t, nil, nil, x, nil, nil)
			}
		}
	}
}

// P18.1: as many ops as there may be, each of another number, by either act, at both ends of the lists.
func TestMaxOps(t *testing.T) {
	l := append(joins(12, 11, 10, 9, 8, 7, 6, 5), leaves(1, 2, 3, 4, 12, 11, 10, 9)...)
	if len(l) != opsMost {
		t.Fatal(len(l))
	}
	askApply(t, nil, nil, tx(l...), []int{5, 6, 7, 8, 9, 10, 11, 12}, []int{1, 2, 3, 4, 9, 10, 11, 12})
	slices.Reverse(l)
	askApply(t, []int{1}, []int{6}, tx(l...), []int{1, 5, 6, 7, 8, 9, 10, 11, 12}, []int{1, 2, 3, 4, 6, 9, 10, 11, 12})
	askApply(t, []int{1}, []int{6}, tx(append(l, join(2))...), []int{1}, []int{6})
}

// P18.1: Live and Epoch of all pairs of lists of the numbers 1 to 6, and of their mirrors at the other end, against the document's words.
func TestLiveAndEpoch(t *testing.T) {
	for shift := range 2 {
		for a := range 1 << 6 {
			for b := range 1 << 6 {
				joined, left := numbers(a<<(6*shift)), numbers(b<<(6*shift))
				askLive(t, joined, left, wantLive(joined, left))
				askEpoch(t, joined, left, len(joined)+len(left))
			}
		}
	}
}

// P18.1: Live and Epoch where none joined, none left, or neither; where all did; of both ends.
func TestLiveAndEpochAtTheEdges(t *testing.T) {
	for _, s := range []scene{
		{joined: nil, left: nil, live: nil, epoch: 0},
		{joined: []int{}, left: []int{}, live: nil, epoch: 0},
		{joined: []int{1}, left: nil, live: []int{1}, epoch: 1},
		{joined: []int{12}, left: []int{}, live: []int{12}, epoch: 1},
		{joined: nil, left: []int{1}, live: nil, epoch: 1},
		{joined: nil, left: everyone(), live: nil, epoch: 12},
		{joined: everyone(), left: nil, live: everyone(), epoch: 12},
		{joined: everyone(), left: everyone(), live: nil, epoch: 24},
		{joined: everyone(), left: []int{1, 12}, live: []int{2, 3, 4, 5, 6, 7, 8, 9, 10, 11}, epoch: 14},
		{joined: []int{1, 12}, left: everyone(), live: nil, epoch: 14},
		{joined: []int{1, 12}, left: []int{2, 3}, live: []int{1, 12}, epoch: 4},
	} {
		askLive(t, s.joined, s.left, s.live)
		askEpoch(t, s.joined, s.left, s.epoch)
	}
}

// R8: the same call answers the same, however often: numbers rise each time.
func TestTheSameAgain(t *testing.T) {
	x := tx(append(joins(8, 3, 11, 1), leaves(9, 2, 12)...)...)
	for range 200 {
		askApply(t, []int{5, 7}, []int{4, 10}, x, []int{1, 3, 5, 7, 8, 11}, []int{2, 4, 9, 10, 12})
		askLive(t, everyone(), []int{4, 10}, []int{1, 2, 3, 5, 6, 7, 8, 9, 11, 12})
	}
}
