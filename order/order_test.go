package order_test

import (
	"math"
	"slices"
	"testing"

	"plexus/api"
	"plexus/ops"
	"plexus/order"
)

// The limits, as the document has them.
const (
	peersMost   = 12
	opsMost     = 16
	seqMost     = 1 << 20
	pendingMost = 32
)

// add answers an op that adds to a counter.
func add(n int) api.Op {
	return api.Op{Kind: 1, Key: "k", Act: 1, N: n}
}

// tx answers a transaction of a peer, the how manieth of its, that has seen what deps have. Its ops tell it from others of the same Dot and Deps, if text does.
func tx(peer int, seq int, deps api.Vec, text ...string) api.Tx {
	x := api.Tx{Dot: api.Dot{Peer: peer, Seq: seq}, Deps: deps, Time: seq, Ops: []api.Op{add(peer)}}
	for _, s := range text {
		x.Ops = append(x.Ops, api.Op{Kind: 4, Key: "s", Act: 1, Text: s})
	}
	return x
}

// sameTx tells whether two transactions are the same.
func sameTx(a api.Tx, b api.Tx) bool {
	return a.Dot == b.Dot && a.Deps == b.Deps && a.Time == b.Time && slices.Equal(a.Ops, b.Ops)
}

// same tells whether two lists have the same transactions, in the same order.
func same(a []api.Tx, b []api.Tx) bool {
	return slices.EqualFunc(a, b, sameTx)
}

// dots answers the names of transactions, so that a test can tell of them shortly.
func dots(l []api.Tx) []api.Dot {
	var all []api.Dot
	for _, x := range l {
		all = append(all, x.Dot)
	}
	return all
}

// rises tells whether transactions rise by Peer, then Seq.
func rises(l []api.Tx) bool {
	for k := 1; k < len(l); k++ {
		a, b := l[k-1].Dot, l[k].Dot
		if a.Peer > b.Peer || a.Peer == b.Peer && a.Seq >= b.Seq {
			return false
		}
	}
	return true
}

// had is the document's account of whether a vector Has a dot.
func had(v api.Vec, d api.Dot) bool {
	return d.Peer >= 1 && d.Peer <= peersMost && d.Seq >= 1 && d.Seq <= v[d.Peer]
}

// wantReady is the document's account of Ready, told number by number.
func wantReady(v api.Vec, x api.Tx) bool {
	if !ops.CheckTx(x) || v[x.Dot.Peer] != x.Dot.Seq-1 {
		return false
	}
	for p := 0; p <= peersMost; p++ {
		if x.Deps[p] > v[p] {
			return false
		}
	}
	return true
}

// wantOffer is the document's account of Offer.
func wantOffer(v api.Vec, l []api.Tx, x api.Tx) ([]api.Tx, api.Errno) {
	if !ops.CheckTx(x) {
		return nil, 3
	}
	if had(v, x.Dot) || slices.Contains(dots(l), x.Dot) {
		return nil, 8
	}
	if len(l) >= pendingMost {
		return nil, 4
	}
	at := 0
	for at < len(l) && (l[at].Dot.Peer < x.Dot.Peer || l[at].Dot.Peer == x.Dot.Peer && l[at].Dot.Seq < x.Dot.Seq) {
		at++
	}
	return slices.Insert(slices.Clone(l), at, x), 0
}

// wantDrain is the document's account of Drain, step by step.
func wantDrain(v api.Vec, l []api.Tx) ([]api.Tx, []api.Tx, api.Vec) {
	var delivered []api.Tx
	waiting := slices.Clone(l)
	for changed := true; changed; {
		before := len(waiting)
		if k := slices.IndexFunc(waiting, func(x api.Tx) bool { return wantReady(v, x) }); k >= 0 {
			x := waiting[k]
			v[x.Dot.Peer] = x.Dot.Seq
			delivered, waiting = append(delivered, x), slices.Delete(waiting, k, k+1)
		}
		waiting = slices.DeleteFunc(waiting, func(x api.Tx) bool { return had(v, x.Dot) })
		changed = len(waiting) < before
	}
	return delivered, waiting, v
}

// wantClosed is the document's account of Closed.
func wantClosed(l []api.Tx) bool {
	var v api.Vec
	for _, x := range l {
		if !wantReady(v, x) {
			return false
		}
		v[x.Dot.Peer]++
	}
	return true
}

// askReady asks Ready.
func askReady(t *testing.T, v api.Vec, x api.Tx, want bool) {
	t.Helper()
	if got := order.Ready(v, x); got != want {
		t.Errorf("Ready(%v, %+v) = %v, want %v", v, x, got, want)
	}
}

// askOffer asks Offer, and answers what waits behind it.
func askOffer(t *testing.T, v api.Vec, l []api.Tx, x api.Tx, want []api.Tx, errno api.Errno) []api.Tx {
	t.Helper()
	got, e := order.Offer(v, l, x)
	if e != errno || !same(got, want) {
		t.Errorf("Offer(%v, %v, %v) = %v, %v, want %v, %v", v, dots(l), x.Dot, dots(got), e, dots(want), errno)
	}
	return got
}

// askDrain asks Drain, and answers what waits behind it.
func askDrain(t *testing.T, v api.Vec, l []api.Tx, want []api.Tx, left []api.Tx, have api.Vec) []api.Tx {
	t.Helper()
	got, waiting, w := order.Drain(v, l)
	if !same(got, want) || !same(waiting, left) || w != have {
		t.Errorf("Drain(%v, %v) = %v, %v, %v, want %v, %v, %v", v, dots(l), dots(got), dots(waiting), w, dots(want), dots(left), have)
	}
	return waiting
}

// askClosed asks Closed.
func askClosed(t *testing.T, l []api.Tx, want bool) {
	t.Helper()
	if got := order.Closed(l); got != want {
		t.Errorf("Closed(%v) = %v, want %v", dots(l), got, want)
	}
}

// The limits and errors are those that the document names.
func TestLimits(t *testing.T) {
	if api.MaxPeers != peersMost || api.MaxOps != opsMost || api.MaxSeq != seqMost || api.MaxPending != pendingMost {
		t.Error(api.MaxPeers, api.MaxOps, api.MaxSeq, api.MaxPending)
	}
	if api.ErrForm != 3 || api.ErrState != 8 || api.ErrFull != 4 {
		t.Error(api.ErrForm, api.ErrState, api.ErrFull)
	}
}

// P19.2: the chapter's example.
func TestExample(t *testing.T) {
	one, two := tx(1, 1, api.Vec{}), tx(1, 2, api.Vec{})
	askDrain(t, api.Vec{}, []api.Tx{two, one}, []api.Tx{one, two}, nil, api.Vec{1: 2})
	askClosed(t, []api.Tx{one, two}, true)
	askClosed(t, []api.Tx{two, one}, false)
}

// P19.1: Ready, written out.
func TestReady(t *testing.T) {
	v := api.Vec{1: 3, 2: 1, 12: 5}
	for _, s := range []struct {
		what string
		x    api.Tx
		want bool
	}{
		{"the next one, that has seen nothing", tx(1, 4, api.Vec{}), true},
		{"the next one, that has seen all", tx(1, 4, v), true},
		{"the next one, that has seen some", tx(1, 4, api.Vec{1: 2, 12: 5}), true},
		{"the first one of a peer", tx(7, 1, v), true},
		{"the next one of the last peer", tx(12, 6, v), true},
		{"one that is had", tx(1, 3, api.Vec{}), false},
		{"the first one, which is had", tx(1, 1, api.Vec{}), false},
		{"one too far", tx(1, 5, api.Vec{}), false},
		{"one too far, that has seen the one ahead", tx(1, 5, api.Vec{1: 4}), false},
		{"the second one of a peer", tx(7, 2, api.Vec{}), false},
		{"one that has seen more of another peer", tx(1, 4, api.Vec{2: 2}), false},
		{"one that has seen more of the last peer", tx(1, 4, api.Vec{12: 6}), false},
		{"one of the last peer that has seen more of the first one", tx(12, 6, api.Vec{1: 4}), false},
		{"one that has seen something of a peer of which there is nothing", tx(12, 6, api.Vec{5: 1}), false},
	} {
		t.Run(s.what, func(t *testing.T) {
			if !ops.CheckTx(s.x) {
				t.Fatalf("%+v may not be", s.x)
			}
			askReady(t, v, s.x, s.want)
		})
	}
}

// P19.1: of each peer, of vectors of zeros, in between and at their end: the next one alone is Ready; and each number of Deps counts.
func TestReadyOfEachPeer(t *testing.T) {
	for _, n := range []int{0, 1, 5, seqMost - 2, seqMost - 1} {
		var v api.Vec
		for p := 1; p <= peersMost; p++ {
			v[p] = n
		}
		for p := 1; p <= peersMost; p++ {
			for _, seq := range []int{1, 2, n - 1, n, n + 1, n + 2} {
				askReady(t, v, tx(p, seq, api.Vec{}), seq == n+1)
			}
			askReady(t, v, tx(p, n+1, v), true)
			for q := 1; q <= peersMost; q++ {
				more := v
				more[q]++
				askReady(t, v, tx(p, n+1, more), false)
				askReady(t, more, tx(p, n+1, v), p != q)
				if n > 0 {
					less := v
					less[q]--
					askReady(t, v, tx(p, n+1, less), true)
					askReady(t, less, tx(p, n+1, v), false)
				}
			}
		}
	}
}

// P19.1: a vector that has all: nothing is Ready of it.
func TestReadyOfAFullVector(t *testing.T) {
	var v api.Vec
	for p := 1; p <= peersMost; p++ {
		v[p] = seqMost
	}
	for p := 1; p <= peersMost; p++ {
		for _, seq := range []int{1, seqMost - 1, seqMost, seqMost + 1} {
			askReady(t, v, tx(p, seq, api.Vec{}), false)
		}
		last := v
		last[p] = seqMost - 1
		askReady(t, last, tx(p, seqMost, last), true)
	}
}

// P19.1: Ready of all small vectors and transactions of three peers, against the document's words.
func TestReadyOfAllSmall(t *testing.T) {
	var all []api.Vec
	for n := range 3 * 3 * 3 {
		all = append(all, api.Vec{1: n % 3, 6: n / 3 % 3, 12: n / 9})
	}
	for _, v := range all {
		for _, deps := range all {
			for _, p := range []int{1, 5, 6, 12} {
				for seq := -1; seq <= 4; seq++ {
					x := tx(p, seq, deps)
					x.Time = 1
					askReady(t, v, x, wantReady(v, x))
				}
			}
		}
	}
}

// waiting are transactions that rise, with room between them.
func waiting() []api.Tx {
	return []api.Tx{tx(2, 3, api.Vec{1: 2}), tx(2, 5, api.Vec{}), tx(4, 1, api.Vec{9: 9}), tx(7, 8, api.Vec{}), tx(11, 2, api.Vec{2: 5})}
}

// P19.1: one that is offered stands in its place: at the beginning, within and at the end, by Peer, then Seq.
func TestOfferInItsPlace(t *testing.T) {
	for _, s := range []struct {
		peer int
		seq  int
		at   int
	}{
		{1, 1, 0}, {1, 9, 0}, {2, 1, 0}, {2, 2, 0}, {2, 4, 1}, {2, 6, 2}, {2, seqMost, 2}, {3, 1, 2}, {3, 9, 2}, {4, 2, 3}, {6, 3, 3},
		{7, 7, 3}, {7, 9, 4}, {10, 5, 4}, {11, 1, 4}, {11, 3, 5}, {12, 1, 5}, {12, seqMost, 5},
	} {
		x := tx(s.peer, s.seq, api.Vec{5: 5})
		got := askOffer(t, api.Vec{}, waiting(), x, slices.Insert(waiting(), s.at, x), 0)
		if !rises(got) {
			t.Errorf("%v do not rise", dots(got))
		}
	}
}

// P19.1: where nothing waits, one that is offered waits alone, of the first and the last peer, Ready or not.
func TestOfferToNone(t *testing.T) {
	for _, l := range [][]api.Tx{nil, {}} {
		for _, x := range []api.Tx{tx(1, 1, api.Vec{}), tx(12, 1, api.Vec{}), tx(12, seqMost, api.Vec{1: seqMost}), tx(1, 3, api.Vec{2: 2})} {
			askOffer(t, api.Vec{}, l, x, []api.Tx{x}, 0)
		}
	}
}

// P19.1: one that is had, or whose Dot waits, is refused, whatever else it has; others are not.
func TestOfferOfWhatIsThere(t *testing.T) {
	v := api.Vec{2: 2, 12: seqMost}
	for _, d := range []api.Dot{{Peer: 2, Seq: 1}, {Peer: 2, Seq: 2}, {Peer: 12, Seq: 1}, {Peer: 12, Seq: seqMost}} {
		askOffer(t, v, waiting(), tx(d.Peer, d.Seq, api.Vec{}), nil, 8)
		askOffer(t, v, nil, tx(d.Peer, d.Seq, api.Vec{1: 4}), nil, 8)
	}
	for _, x := range waiting() {
		askOffer(t, v, waiting(), x, nil, 8)
		other := tx(x.Dot.Peer, x.Dot.Seq, api.Vec{3: 3}, "other")
		askOffer(t, v, waiting(), other, nil, 8)
	}
	next := tx(2, 4, api.Vec{})
	askOffer(t, v, waiting(), next, slices.Insert(waiting(), 1, next), 0)
	first := tx(1, 1, api.Vec{})
	askOffer(t, v, waiting(), first, slices.Insert(waiting(), 0, first), 0)
}

// many answers so many transactions of several peers that rise, none of which is Ready of zeros.
func many(n int) []api.Tx {
	var l []api.Tx
	for k := range n {
		l = append(l, tx(2+k*10/n, 2+k, api.Vec{}))
	}
	return l
}

// P19.1: MaxPending less one that wait: one more; MaxPending and more: full, wherever its place would be.
func TestOfferWhereManyWait(t *testing.T) {
	for _, x := range []api.Tx{tx(1, 1, api.Vec{}), tx(6, 1, api.Vec{}), tx(12, seqMost, api.Vec{})} {
		for _, n := range []int{0, 1, pendingMost - 2, pendingMost - 1} {
			want, _ := wantOffer(api.Vec{}, many(n), x)
			if got := askOffer(t, api.Vec{}, many(n), x, want, 0); len(got) != n+1 || !rises(got) {
				t.Errorf("%v", dots(got))
			}
		}
		for _, n := range []int{pendingMost, pendingMost + 1, 2 * pendingMost, 1000} {
			askOffer(t, api.Vec{}, many(n), x, nil, 4)
		}
	}
}

// P19.1: offered one by one in any order, as many as may wait rise, and the next one is refused.
func TestOfferUntilFull(t *testing.T) {
	all := many(pendingMost + 1)
	for _, step := range []int{1, 2, 4, 5, 7, 10, 16, 31, 32} { // none has a factor of 33, so that each comes once
		var l []api.Tx
		for k := range pendingMost {
			x := all[k*step%len(all)]
			want, errno := wantOffer(api.Vec{}, l, x)
			if errno != 0 {
				t.Fatalf("%v is told twice", x.Dot)
			}
			if l = askOffer(t, api.Vec{}, l, x, want, 0); !rises(l) {
				t.Fatalf("%v do not rise", dots(l))
			}
		}
		askOffer(t, api.Vec{}, l, all[pendingMost*step%len(all)], nil, 4)
	}
}

// scene is what waits behind a vector, and what Drain comes to.
type scene struct {
	what      string
	v         api.Vec
	waits     []api.Tx
	delivered []int // places of those that wait
	left      []int
	have      api.Vec
}

// scenes are drains, written out.
func scenes() []scene {
	return []scene{
		{"nothing waits", api.Vec{}, nil, nil, nil, api.Vec{}},
		{"nothing waits behind something", api.Vec{3: 4}, []api.Tx{}, nil, nil, api.Vec{3: 4}},
		{"one is Ready", api.Vec{}, []api.Tx{tx(12, 1, api.Vec{})}, []int{0}, nil, api.Vec{12: 1}},
		{"one waits for another one", api.Vec{}, []api.Tx{tx(2, 1, api.Vec{1: 1})}, nil, []int{0}, api.Vec{}},
		{"one waits for that of its peer", api.Vec{}, []api.Tx{tx(2, 2, api.Vec{})}, nil, []int{0}, api.Vec{}},
		{"two of one peer, one behind the other", api.Vec{}, []api.Tx{tx(2, 1, api.Vec{}), tx(2, 2, api.Vec{2: 1})}, []int{0, 1}, nil, api.Vec{2: 2}},
		{"two of one peer, with one lacking between", api.Vec{}, []api.Tx{tx(2, 1, api.Vec{}), tx(2, 3, api.Vec{})}, []int{0}, []int{1}, api.Vec{2: 1}},
		{"two of one peer that wait both", api.Vec{2: 1}, []api.Tx{tx(2, 3, api.Vec{}), tx(2, 4, api.Vec{})}, nil, []int{0, 1}, api.Vec{2: 1}},
		{"two of one peer, the second one of which could be, but for the first", api.Vec{2: 1}, []api.Tx{tx(2, 2, api.Vec{7: 1}), tx(2, 3, api.Vec{})}, nil, []int{0, 1}, api.Vec{2: 1}},
		{"the first that is Ready, not the least", api.Vec{}, []api.Tx{tx(9, 1, api.Vec{}), tx(1, 1, api.Vec{}), tx(4, 1, api.Vec{})}, []int{0, 1, 2}, nil, api.Vec{1: 1, 4: 1, 9: 1}},
		{"one delivered, it begins again with the first", api.Vec{}, []api.Tx{tx(1, 1, api.Vec{5: 1}), tx(2, 1, api.Vec{1: 1}), tx(5, 1, api.Vec{}), tx(6, 1, api.Vec{})}, []int{2, 0, 1, 3}, nil, api.Vec{1: 1, 2: 1, 5: 1, 6: 1}},
		{"each lets the one ahead of it go", api.Vec{}, []api.Tx{tx(1, 1, api.Vec{2: 1}), tx(2, 1, api.Vec{3: 1}), tx(3, 1, api.Vec{4: 1}), tx(4, 1, api.Vec{})}, []int{3, 2, 1, 0}, nil, api.Vec{1: 1, 2: 1, 3: 1, 4: 1}},
		{"two that wait for each other", api.Vec{}, []api.Tx{tx(1, 1, api.Vec{2: 1}), tx(2, 1, api.Vec{1: 1}), tx(3, 1, api.Vec{})}, []int{2}, []int{0, 1}, api.Vec{3: 1}},
		{"one that waits for several, the last of which does not come", api.Vec{}, []api.Tx{tx(1, 1, api.Vec{2: 1, 3: 1, 12: 1}), tx(2, 1, api.Vec{}), tx(3, 1, api.Vec{})}, []int{1, 2}, []int{0}, api.Vec{2: 1, 3: 1}},
		{"one that waits for several, which come", api.Vec{12: 1}, []api.Tx{tx(1, 1, api.Vec{2: 1, 3: 1, 12: 2}), tx(2, 1, api.Vec{}), tx(3, 1, api.Vec{}), tx(12, 2, api.Vec{3: 1})}, []int{1, 2, 3, 0}, nil, api.Vec{1: 1, 2: 1, 3: 1, 12: 2}},
		{"those that are had go", api.Vec{2: 3, 12: 1}, []api.Tx{tx(2, 1, api.Vec{}), tx(2, 3, api.Vec{}), tx(2, 4, api.Vec{}), tx(2, 6, api.Vec{}), tx(12, 1, api.Vec{9: 9})}, []int{2}, []int{3}, api.Vec{2: 4, 12: 1}},
		{"all are had", api.Vec{1: 2, 2: 2}, []api.Tx{tx(1, 1, api.Vec{}), tx(1, 2, api.Vec{}), tx(2, 2, api.Vec{})}, nil, nil, api.Vec{1: 2, 2: 2}},
		{"twice of one Dot: the first one, the other goes", api.Vec{}, []api.Tx{tx(3, 1, api.Vec{}, "a"), tx(3, 1, api.Vec{}, "b")}, []int{0}, nil, api.Vec{3: 1}},
		{"twice of one Dot: the one that is Ready first", api.Vec{}, []api.Tx{tx(3, 1, api.Vec{5: 1}, "a"), tx(3, 1, api.Vec{}, "b"), tx(5, 1, api.Vec{})}, []int{1, 2}, nil, api.Vec{3: 1, 5: 1}},
		{"twice of one Dot: the first one, once both are Ready", api.Vec{}, []api.Tx{tx(3, 1, api.Vec{5: 1}, "a"), tx(5, 1, api.Vec{}), tx(3, 1, api.Vec{}, "b")}, []int{1, 0}, nil, api.Vec{3: 1, 5: 1}},
		{"twice of one Dot, neither Ready", api.Vec{}, []api.Tx{tx(3, 2, api.Vec{}, "a"), tx(3, 2, api.Vec{}, "b")}, nil, []int{0, 1}, api.Vec{}},
		{"the last of a peer", api.Vec{4: seqMost - 1}, []api.Tx{tx(4, seqMost, api.Vec{4: seqMost - 1})}, []int{0}, nil, api.Vec{4: seqMost}},
		{"behind the last of a peer", api.Vec{4: seqMost}, []api.Tx{tx(1, 1, api.Vec{4: seqMost}), tx(4, seqMost, api.Vec{}), tx(12, 1, api.Vec{1: 1, 4: seqMost})}, []int{0, 2}, nil, api.Vec{1: 1, 4: seqMost, 12: 1}},
		{"the first and the last peer, which wait for each other by turns", api.Vec{}, []api.Tx{tx(1, 1, api.Vec{}), tx(1, 2, api.Vec{12: 1}), tx(12, 1, api.Vec{1: 1}), tx(12, 2, api.Vec{1: 2})}, []int{0, 2, 1, 3}, nil, api.Vec{1: 2, 12: 2}},
	}
}

// chosen answers the transactions of some places.
func chosen(l []api.Tx, places []int) []api.Tx {
	var some []api.Tx
	for _, k := range places {
		some = append(some, l[k])
	}
	return some
}

// P19.2: Drain, as written out; behind it nothing more changes.
func TestScenes(t *testing.T) {
	for _, s := range scenes() {
		t.Run(s.what, func(t *testing.T) {
			for _, x := range s.waits {
				if !ops.CheckTx(x) {
					t.Fatalf("%+v may not be", x)
				}
			}
			left := askDrain(t, s.v, s.waits, chosen(s.waits, s.delivered), chosen(s.waits, s.left), s.have)
			askDrain(t, s.have, left, nil, left, s.have)
		})
	}
}

// P19.2: what waits comes to be delivered when what it waits for comes.
func TestWaitsForOneThatComesLater(t *testing.T) {
	first, second, third := tx(5, 1, api.Vec{}), tx(1, 1, api.Vec{5: 1}), tx(1, 2, api.Vec{1: 1, 5: 1})
	l := askOffer(t, api.Vec{}, nil, third, []api.Tx{third}, 0)
	l = askDrain(t, api.Vec{}, l, nil, []api.Tx{third}, api.Vec{})
	l = askOffer(t, api.Vec{}, l, second, []api.Tx{second, third}, 0)
	l = askDrain(t, api.Vec{}, l, nil, []api.Tx{second, third}, api.Vec{})
	l = askOffer(t, api.Vec{}, l, first, []api.Tx{second, third, first}, 0)
	askDrain(t, api.Vec{}, l, []api.Tx{first, second, third}, nil, api.Vec{1: 2, 5: 1})
}

// P19.2: MaxPending less one, MaxPending and more that wait are drained, whatever their order.
func TestDrainOfMany(t *testing.T) {
	for _, n := range []int{1, pendingMost - 1, pendingMost, pendingMost + 1, 4096, 1 << 16} {
		var forth, back []api.Tx
		for k := range n {
			forth = append(forth, tx(1+k%2*11, 1+k/2, api.Vec{1: (k + 1) / 2, 12: k / 2}))
		}
		for k := range n {
			back = append(back, forth[n-1-k])
		}
		have := api.Vec{1: (n + 1) / 2, 12: n / 2}
		askDrain(t, api.Vec{}, forth, forth, nil, have)
		askDrain(t, api.Vec{}, back, forth, nil, have)
		askDrain(t, api.Vec{}, back[:n-1], nil, back[:n-1], api.Vec{})
		askClosed(t, forth, true)
		askClosed(t, forth[:n-1], true)
		askClosed(t, back, n == 1)
	}
}

// P19.2: many that are not Ready, of one Dot, wait while many others are delivered.
func TestDrainOfManyOfOneDot(t *testing.T) {
	const n = 1 << 14
	var l, want []api.Tx
	for range n {
		l = append(l, tx(2, 1, api.Vec{1: n + 1}))
	}
	for k := range n {
		want = append(want, tx(1, k+1, api.Vec{}))
	}
	askDrain(t, api.Vec{}, append(slices.Clone(l), want...), want, l, api.Vec{1: n})
}

// P19.2: Closed of none, of one, of several, and of one that is there twice.
func TestClosed(t *testing.T) {
	a, b, c := tx(1, 1, api.Vec{}), tx(12, 1, api.Vec{1: 1}), tx(1, 2, api.Vec{1: 1, 12: 1})
	for _, s := range []struct {
		what string
		l    []api.Tx
		want bool
	}{
		{"nil", nil, true},
		{"none", []api.Tx{}, true},
		{"the first one of the first peer", []api.Tx{a}, true},
		{"the first one of the last peer", []api.Tx{tx(12, 1, api.Vec{})}, true},
		{"one that has seen something", []api.Tx{b}, false},
		{"a second one alone", []api.Tx{tx(1, 2, api.Vec{})}, false},
		{"the last one alone", []api.Tx{tx(1, seqMost, api.Vec{})}, false},
		{"each behind what it has seen", []api.Tx{a, b, c}, true},
		{"one ahead of what it has seen", []api.Tx{b, a, c}, false},
		{"one ahead of what it has seen, in between", []api.Tx{a, c, b}, false},
		{"one lacking", []api.Tx{a, c}, false},
		{"twice, one behind the other", []api.Tx{a, a}, false},
		{"twice, with others between", []api.Tx{a, b, c, a}, false},
		{"the last one twice", []api.Tx{a, b, c, c}, false},
		{"another one of the same Dot", []api.Tx{a, b, tx(1, 1, api.Vec{}, "other")}, false},
		{"one that lacks something, at the end", []api.Tx{a, b, c, tx(4, 1, api.Vec{5: 1})}, false},
		{"several that have seen nothing", []api.Tx{tx(9, 1, api.Vec{}), a, tx(4, 1, api.Vec{}), tx(9, 2, api.Vec{})}, true},
	} {
		t.Run(s.what, func(t *testing.T) {
			askClosed(t, s.l, s.want)
		})
	}
}

// P19.2: Closed of all lists of up to four of six transactions, against the document's words.
func TestClosedOfAllSmall(t *testing.T) {
	some := []api.Tx{tx(1, 1, api.Vec{}), tx(1, 2, api.Vec{2: 1}), tx(2, 1, api.Vec{}), tx(2, 2, api.Vec{1: 1}), tx(12, 1, api.Vec{1: 1, 2: 1}), tx(12, 2, api.Vec{1: math.MaxInt})}
	lists, closed := [][]api.Tx{nil}, 0
	for range 4 {
		var longer [][]api.Tx
		for _, l := range lists {
			for _, x := range some {
				longer = append(longer, append(slices.Clip(l), x))
			}
		}
		for _, l := range longer {
			askClosed(t, l, wantClosed(l))
			if wantClosed(l) {
				closed++
			}
		}
		lists = longer
	}
	if closed < 20 {
		t.Errorf("only %d are closed", closed)
	}
}

// R7: of a list its length alone counts: what stands behind its end is not looked at.
func TestBehindTheEnd(t *testing.T) {
	a, b, c := tx(1, 1, api.Vec{}), tx(2, 1, api.Vec{1: 1}), tx(3, 1, api.Vec{})
	all := []api.Tx{a, b, c, a}
	askClosed(t, all, false)
	askClosed(t, all[:3], true)
	askDrain(t, api.Vec{}, all[1:2], nil, []api.Tx{b}, api.Vec{})
	askOffer(t, api.Vec{}, all[1:2], c, []api.Tx{b, c}, 0)
	askOffer(t, api.Vec{}, all[:0], a, []api.Tx{a}, 0)
	long := many(pendingMost + 5)
	askOffer(t, api.Vec{}, long[:pendingMost-1], long[pendingMost], append(many(pendingMost + 5)[:pendingMost-1], long[pendingMost]), 0)
}
