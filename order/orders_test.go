package order_test

import (
	"math/rand"
	"slices"
	"testing"

	"plexus/api"
	"plexus/ops"
	"plexus/order"
)

// story are transactions of several peers with Deps on one another.
func story() []api.Tx {
	return []api.Tx{
		tx(1, 1, api.Vec{}),
		tx(12, 1, api.Vec{1: 1}),
		tx(1, 2, api.Vec{1: 1}),
		tx(5, 1, api.Vec{}),
		tx(12, 2, api.Vec{1: 1, 5: 1, 12: 1}),
		tx(5, 2, api.Vec{1: 2, 5: 1, 12: 2}),
	}
}

// orders tells each order of so many places.
func orders(n int, tell func([]int)) {
	places := make([]int, n)
	for k := range places {
		places[k] = k
	}
	var further func(int)
	further = func(k int) {
		if k == n {
			tell(places)
			return
		}
		for other := k; other < n; other++ {
			places[k], places[other] = places[other], places[k]
			further(k + 1)
			places[k], places[other] = places[other], places[k]
		}
	}
	further(0)
}

// behind tells of a list in which order it was delivered: whether each stands behind all that it has seen, and behind all of its peer's ahead of it, and none stands there twice. It looks back from each one, and asks no vector.
func behind(l []api.Tx) bool {
	for k, x := range l {
		ahead := dots(l[:k])
		if slices.Contains(ahead, x.Dot) {
			return false
		}
		for p := 1; p <= peersMost; p++ {
			n := x.Deps[p]
			if p == x.Dot.Peer {
				n = x.Dot.Seq - 1
			}
			for seq := 1; seq <= n; seq++ {
				if !slices.Contains(ahead, api.Dot{Peer: p, Seq: seq}) {
					return false
				}
			}
		}
	}
	return true
}

// askFollows asks what follows of all that was delivered from zeros on, what still waits, and the vector that it came to (P19.3).
func askFollows(t *testing.T, delivered []api.Tx, left []api.Tx, v api.Vec) {
	t.Helper()
	if !order.Closed(delivered) || !behind(delivered) {
		t.Fatalf("%v are delivered so", dots(delivered))
	}
	var count api.Vec
	for _, x := range delivered {
		count[x.Dot.Peer]++
	}
	if count != v {
		t.Fatalf("%v are delivered, and had is %v", dots(delivered), v)
	}
	for _, x := range left {
		if order.Ready(v, x) || had(v, x.Dot) {
			t.Fatalf("%v waits behind %v", x.Dot, v)
		}
	}
}

// peer is one that takes transactions in as they come: what it has delivered, what waits, and what it has.
type peer struct {
	delivered []api.Tx
	waits     []api.Tx
	v         api.Vec
}

// take offers a transaction, drains, and holds both against the document's words.
func (p *peer) take(t *testing.T, x api.Tx) api.Errno {
	t.Helper()
	want, errno := wantOffer(p.v, p.waits, x)
	l := askOffer(t, p.v, p.waits, x, want, errno)
	if errno != 0 {
		return errno
	}
	more, left, v := wantDrain(p.v, want)
	p.waits = askDrain(t, p.v, l, more, left, v)
	p.delivered, p.v = append(p.delivered, more...), v
	askFollows(t, p.delivered, p.waits, p.v)
	if !rises(p.waits) {
		t.Fatalf("%v do not rise", dots(p.waits))
	}
	return 0
}

// P19.1, P19.2, P19.3: every order of the story, offered, and drained behind each, comes to all of it, and what waits until then waits for something; each that comes again is refused.
func TestEveryOrder(t *testing.T) {
	all := story()
	waited := 0
	orders(len(all), func(places []int) {
		var p peer
		for n, k := range places {
			if e := p.take(t, all[k]); e != 0 {
				t.Fatalf("order %v: %v of %v", places, e, all[k].Dot)
			}
			for _, other := range places[:n+1] {
				askOffer(t, p.v, p.waits, all[other], nil, 8)
			}
			if len(p.delivered)+len(p.waits) != n+1 {
				t.Fatalf("order %v: %v delivered, %v wait", places, dots(p.delivered), dots(p.waits))
			}
			waited += len(p.waits)
		}
		if len(p.waits) > 0 || p.v != (api.Vec{1: 2, 5: 2, 12: 2}) {
			t.Fatalf("order %v comes to %v, and %v wait", places, p.v, dots(p.waits))
		}
	})
	if waited == 0 {
		t.Error("nothing ever waited")
	}
}

// P19.2, P19.3: every order of the story at once: what is delivered is all of it, each behind what it has seen; without any one of them, those that have seen it wait.
func TestEveryOrderAtOnce(t *testing.T) {
	all := story()
	orders(len(all), func(places []int) {
		l := chosen(all, places)
		askClosed(t, l, behind(l))
		for gone := range len(l) + 1 {
			some := slices.Clone(l)
			if gone < len(l) {
				some = slices.Delete(some, gone, gone+1)
			}
			want, left, v := wantDrain(api.Vec{}, some)
			askDrain(t, api.Vec{}, some, want, left, v)
			askFollows(t, want, left, v)
			if gone == len(l) && len(want) != len(l) {
				t.Fatalf("%v comes to %v", dots(l), dots(want))
			}
		}
	})
}

// P19.2: without one of the story, those that have seen it, or stand behind it, wait, as written out; all others are delivered.
func TestWithoutOne(t *testing.T) {
	all := story()
	for gone, left := range [][]int{{1, 2, 4, 5}, {4, 5}, {5}, {4, 5}, {5}, {}} {
		var l, want []api.Tx
		for k, x := range all {
			if k != gone {
				l = append(l, x)
			}
			if k != gone && !slices.Contains(left, k) {
				want = append(want, x)
			}
		}
		got, waits, _ := order.Drain(api.Vec{}, l)
		if !same(got, want) || !same(waits, chosen(all, left)) {
			t.Errorf("without %v: %v delivered, %v wait", all[gone].Dot, dots(got), dots(waits))
		}
	}
}

// history answers transactions of some peers, each of which has seen what its peer had then, in the order in which they were made.
func history(r *rand.Rand, peers int, n int) []api.Tx {
	var l []api.Tx
	var has [peersMost + 1]api.Vec
	for range n {
		p := 1 + r.Intn(peers)
		for q := range peers {
			if r.Intn(3) == 0 {
				for k, m := range has[q+1] {
					has[p][k] = max(has[p][k], m)
				}
			}
		}
		x := tx(p, has[p][p]+1, has[p])
		has[p][p]++
		l = append(l, x)
	}
	return l
}

// P19.1, P19.2, P19.3: random histories, that come in random order, again and again; where it is full, even one that is Ready is refused, and what waits is forgotten, as by a crash; in the end all is delivered, in an order that may be.
func TestRandomHistories(t *testing.T) {
	r := rand.New(rand.NewSource(19))
	full := 0
	for range 60 {
		all := history(r, 1+r.Intn(peersMost), 1+r.Intn(90))
		askClosed(t, all, true)
		var p peer
		for range 1000 {
			if len(p.delivered) == len(all) {
				break
			}
			for _, k := range r.Perm(len(all)) {
				if p.take(t, all[k]) == 4 {
					p.waits, full = nil, full+1
				}
			}
		}
		if len(p.delivered) != len(all) || len(p.waits) != 0 {
			t.Fatalf("%d of %d are delivered, %v wait", len(p.delivered), len(all), dots(p.waits))
		}
	}
	if full == 0 {
		t.Error("it was never full")
	}
}

// P19.2: random histories drained at once, in random order, from what a beginning of them came to: all the rest is delivered, by the rule of the first one, and what was had goes.
func TestRandomDrains(t *testing.T) {
	r := rand.New(rand.NewSource(192))
	for range 300 {
		all := history(r, 1+r.Intn(peersMost), 1+r.Intn(60))
		begun, v := r.Intn(len(all)+1), api.Vec{}
		for _, x := range all[:begun] {
			v[x.Dot.Peer]++
		}
		var l []api.Tx
		for _, k := range r.Perm(len(all)) {
			l = append(l, all[k])
		}
		want, left, have := wantDrain(v, l)
		if len(want) != len(all)-begun || len(left) != 0 {
			t.Fatalf("%v from %v comes to %v", dots(l), v, dots(want))
		}
		askDrain(t, v, l, want, nil, have)
		askClosed(t, append(slices.Clone(all[:begun]), want...), true)
	}
}

// P19.2, P19.3: any transactions that may be, of small numbers, several of one Dot among them, that need not be of one history, upon any small vector, against the document's words.
func TestAnyDrains(t *testing.T) {
	r := rand.New(rand.NewSource(193))
	some := func(most int) api.Vec {
		return api.Vec{1: r.Intn(most), 2: r.Intn(most), 11: r.Intn(most), 12: r.Intn(most)}
	}
	moved, stayed := 0, 0
	for range 20000 {
		var l []api.Tx
		for range r.Intn(12) {
			x := tx([]int{1, 2, 11, 12}[r.Intn(4)], 1+r.Intn(4), some(1+r.Intn(3)), string(rune('a'+r.Intn(3))))
			if ops.CheckTx(x) {
				l = append(l, x)
			}
		}
		for _, v := range []api.Vec{{}, some(3)} {
			want, left, have := wantDrain(v, l)
			askDrain(t, v, l, want, left, have)
			if v == (api.Vec{}) {
				askFollows(t, want, left, have)
			}
			moved, stayed = moved+len(want), stayed+len(left)
		}
		askClosed(t, l, wantClosed(l))
	}
	if moved < 1000 || stayed < 1000 {
		t.Errorf("%d moved, %d stayed", moved, stayed)
	}
}

// P19.2: from wherever one begins, draining in two goes comes to the same as in one, as far as what is had goes.
func TestDrainedInTwoGoes(t *testing.T) {
	r := rand.New(rand.NewSource(194))
	for range 300 {
		all := history(r, 1+r.Intn(5), 2+r.Intn(30))
		var l []api.Tx
		for _, k := range r.Perm(len(all)) {
			l = append(l, all[k])
		}
		cut := r.Intn(len(l))
		first, left, v := order.Drain(api.Vec{}, l[:cut])
		second, rest, have := order.Drain(v, append(left, l[cut:]...))
		_, _, want := order.Drain(api.Vec{}, l)
		if have != want || len(rest) != 0 || !order.Closed(append(first, second...)) {
			t.Fatalf("%v, then %v: %v, want %v", dots(first), dots(second), have, want)
		}
	}
}
