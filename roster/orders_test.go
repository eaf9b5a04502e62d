package roster_test

import (
	"math/rand"
	"slices"
	"testing"

	"plexus/api"
	"plexus/ops"
	"plexus/roster"
)

// story answers transactions of several peers, none of which has seen another one: they may come in any order.
func story() []api.Tx {
	l := []api.Tx{
		tx(join(2), others()[0], join(7)),
		tx(leave(2), leave(11)),
		tx(join(2), leave(7), join(12)),
		tx(leave(7), join(7), others()[5]),
		tx(others()[:9]...),
		tx(leaves(1, 12)...),
	}
	for k := range l {
		l[k].Dot.Peer = k + 2
		l[k].Deps = api.Vec{1: 4}
	}
	return l
}

// orders tells each order of so many places.
func orders(n int, tell func([]int)) {
	places := make([]int, n)
	for k := range places {
		places[k] = k
	}
	var further func(int)
	further = func(k int) {
		if k == n {
			tell(places)
			return
		}
		for other := k; other < n; other++ {
			places[k], places[other] = places[other], places[k]
			further(k + 1)
			places[k], places[other] = places[other], places[k]
		}
	}
	further(0)
}

// step takes a transaction in, and asks what follows: lists that may be stay so, the Epoch does not fall, and who is Live stays where it stays.
func step(t *testing.T, joined []int, left []int, x api.Tx) ([]int, []int) {
	t.Helper()
	in, out := roster.Apply(joined, left, x)
	if !roster.Check(in) || !roster.Check(out) {
		t.Fatalf("Apply(%v, %v, %+v) = %v, %v, which may not be", joined, left, x, in, out)
	}
	before, behind := roster.Epoch(joined, left), roster.Epoch(in, out)
	if behind < before {
		t.Fatalf("Epoch fell from %d to %d: %v, %v by %+v", before, behind, joined, left, x)
	}
	was, is := roster.Live(joined, left), roster.Live(in, out)
	if behind == before && !slices.Equal(was, is) {
		t.Fatalf("Epoch stayed %d, Live was %v and is %v by %+v", before, was, is, x)
	}
	if changed := !slices.Equal(joined, in) || !slices.Equal(left, out); changed != (behind > before) {
		t.Fatalf("%v, %v to %v, %v, and Epoch %d to %d", joined, left, in, out, before, behind)
	}
	return in, out
}

// P18.2: every order of the story, from each of some lists, comes to the same lists, and what follows holds behind each transaction.
func TestEveryOrder(t *testing.T) {
	all := story()
	for _, x := range all {
		if !ops.CheckTx(x) {
			t.Fatalf("%+v may not be", x)
		}
	}
	for _, s := range []scene{
		{in: []int{2, 7, 12}, out: []int{1, 2, 7, 11, 12}, live: nil, epoch: 8},
		{joined: []int{1}, in: []int{1, 2, 7, 12}, out: []int{1, 2, 7, 11, 12}, live: nil, epoch: 9},
		{joined: []int{2, 3, 11}, left: []int{5}, in: []int{2, 3, 7, 11, 12}, out: []int{1, 2, 5, 7, 11, 12}, live: []int{3}, epoch: 11},
		{joined: everyone(), in: everyone(), out: []int{1, 2, 7, 11, 12}, live: []int{3, 4, 5, 6, 8, 9, 10}, epoch: 17},
		{left: everyone(), in: []int{2, 7, 12}, out: everyone(), live: nil, epoch: 15},
		{joined: everyone(), left: everyone(), in: everyone(), out: everyone(), live: nil, epoch: 24},
	} {
		orders(len(all), func(places []int) {
			joined, left := s.joined, s.left
			for _, k := range places {
				joined, left = step(t, joined, left, all[k])
			}
			if !slices.Equal(joined, s.in) || !slices.Equal(left, s.out) {
				t.Fatalf("order %v from %v, %v: %v, %v, want %v, %v", places, s.joined, s.left, joined, left, s.in, s.out)
			}
			askLive(t, joined, left, s.live)
			askEpoch(t, joined, left, s.epoch)
		})
	}
}

// P18.2: a transaction that comes again changes nothing, wherever it comes again.
func TestAgain(t *testing.T) {
	all := story()
	for first := range all {
		joined, left := []int{3}, []int{4}
		for k := range all {
			x := all[(first+k)%len(all)]
			joined, left = step(t, joined, left, x)
			for again := range k + 1 {
				askApply(t, joined, left, all[(first+again)%len(all)], joined, left)
			}
		}
	}
}

// anyTx answers a transaction with ops of the roster, at random, among others.
func anyTx(r *rand.Rand, peer int) api.Tx {
	var l []api.Op
	for range 1 + r.Intn(opsMost) {
		o := others()[r.Intn(len(others())-1)]
		switch r.Intn(4) {
		case 0:
			o = join(1 + r.Intn(peersMost))
		case 1:
			o = leave(1 + r.Intn(peersMost))
		}
		l = append(l, o)
	}
	return api.Tx{Dot: api.Dot{Peer: peer, Seq: 1}, Deps: api.Vec{1: 4}, Time: 1 + r.Intn(100), Ops: l}
}

// P18.2: random transactions, in several orders, come to the same lists, which are those that all their ops name together.
func TestRandomOrders(t *testing.T) {
	r := rand.New(rand.NewSource(18))
	for range 300 {
		var all []api.Tx
		together := api.Tx{}
		for k := range 1 + r.Intn(7) {
			x := anyTx(r, k+2)
			if !ops.CheckTx(x) {
				t.Fatalf("%+v may not be", x)
			}
			all, together.Ops = append(all, x), append(together.Ops, x.Ops...)
		}
		joined, left := numbers(r.Intn(1<<peersMost)&r.Intn(1<<peersMost)), numbers(r.Intn(1<<peersMost)&r.Intn(1<<peersMost))
		var wantIn, wantOut []int
		for _, n := range everyone() {
			if slices.Contains(joined, n) || named(together, 1, n) {
				wantIn = append(wantIn, n)
			}
			if slices.Contains(left, n) || named(together, 2, n) {
				wantOut = append(wantOut, n)
			}
		}
		for range 12 {
			in, out := joined, left
			for _, k := range r.Perm(len(all)) {
				want, gone := wantApply(in, out, all[k])
				askApply(t, in, out, all[k], want, gone)
				in, out = step(t, in, out, all[k])
				askLive(t, in, out, wantLive(in, out))
			}
			if !slices.Equal(in, wantIn) || !slices.Equal(out, wantOut) {
				t.Fatalf("from %v, %v: %v, %v, want %v, %v", joined, left, in, out, wantIn, wantOut)
			}
		}
	}
}
