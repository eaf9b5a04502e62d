package stable_test

import (
	"math/rand"
	"slices"
	"testing"

	"plexus/api"
	"plexus/order"
	"plexus/stable"
)

// history is what each transaction has seen, by its dot.
type history map[api.Dot]api.Vec

// closed tells whether a vector has, with each dot, what it has seen.
func (h history) closed(v api.Vec) bool {
	for d, deps := range h {
		if d.Seq <= v[d.Peer] && !leq(deps, v) {
			return false
		}
	}
	return true
}

// txs answers the transactions of a history, in no order.
func (h history) txs() []api.Tx {
	var l []api.Tx
	for d, deps := range h {
		l = append(l, api.Tx{Dot: d, Deps: deps, Time: 1, Ops: []api.Op{{Kind: 1, Key: "k", Act: 1, N: 1}}})
	}
	return l
}

// story answers eight transactions of three peers: 1 2 has seen 2 1, 3 1 has seen 1 2, 2 2 has seen 1 1, and 3 3 all of them but 2 3.
func story() history {
	return history{
		{Peer: 1, Seq: 1}: {},
		{Peer: 2, Seq: 1}: {},
		{Peer: 1, Seq: 2}: {1: 1, 2: 1},
		{Peer: 2, Seq: 2}: {1: 1, 2: 1},
		{Peer: 3, Seq: 1}: {1: 2, 2: 1},
		{Peer: 3, Seq: 2}: {1: 2, 2: 1, 3: 1},
		{Peer: 2, Seq: 3}: {1: 1, 2: 2},
		{Peer: 3, Seq: 3}: {1: 2, 2: 2, 3: 2},
	}
}

// within answers all vectors that have nothing that a history has not.
func within(h history) []api.Vec {
	var most api.Vec
	for d := range h {
		most[d.Peer] = max(most[d.Peer], d.Seq)
	}
	l := []api.Vec{{}}
	for p, n := range most {
		var more []api.Vec
		for _, v := range l {
			for k := range n + 1 {
				more = append(more, with(v, p, k))
			}
		}
		l = more
	}
	return l
}

// closedOnes answers those of vectors that are closed.
func closedOnes(h history, l []api.Vec) []api.Vec {
	return slices.DeleteFunc(slices.Clone(l), func(v api.Vec) bool { return !h.closed(v) })
}

// askLeast asks whether a cut is Leq own, and the row of each that is live but self; and whether nothing more is so: at each place it is what one of them has.
func askLeast(t *testing.T, cut api.Vec, rows table, self int, own api.Vec, live []int) {
	t.Helper()
	others := []api.Vec{own}
	for _, p := range live {
		if p != self {
			others = append(others, rows[p])
		}
	}
	for _, v := range others {
		if !leq(cut, v) {
			t.Fatalf("Cut(%v, %d, %v, %v) = %v, which is not Leq %v", rows, self, own, live, cut, v)
		}
	}
	for q := range cut {
		if !slices.ContainsFunc(others, func(v api.Vec) bool { return v[q] == cut[q] }) {
			t.Fatalf("Cut(%v, %d, %v, %v) = %v, which has less than all at %d", rows, self, own, live, cut, q)
		}
	}
}

// P20.2: own and the rows of two others, each any vector of the story that is closed: the cut is closed, and Leq each. Of those that are not closed some cuts are not, so that this tells something.
func TestClosedOnesOfAStory(t *testing.T) {
	h := story()
	some := within(h)
	sound := closedOnes(h, some)
	if len(sound) < 10 || len(sound) >= len(some) {
		t.Fatalf("%d of %d are closed", len(sound), len(some))
	}
	for _, own := range sound {
		for _, a := range sound {
			for _, b := range sound {
				rows := table{1: own, 2: a, 3: b}
				for _, live := range [][]int{{1}, {2}, {1, 2}, {2, 3}, {1, 2, 3}} {
					cut := stable.Cut(rows, 1, own, live)
					askLeast(t, cut, rows, 1, own, live)
					if !h.closed(cut) {
						t.Fatalf("Cut(%v, 1, %v, %v) = %v is not closed", rows, own, live, cut)
					}
				}
			}
		}
	}
	open := 0
	for _, own := range some {
		for _, a := range some {
			if !h.closed(stable.Cut(table{2: a}, 1, own, []int{1, 2})) {
				open++
			}
		}
	}
	if open == 0 {
		t.Error("each cut is closed, whatever the rows are")
	}
}

// P20.2: a Cut of any rows that may be is Leq own, and each row of live's, and nothing more is; where self's row is own, it is Leq that one, too.
func TestCutsOfRandomRows(t *testing.T) {
	r := rand.New(rand.NewSource(20))
	for range 20000 {
		var rows table
		for p := range rows {
			for q := 1; q <= peersMost; q++ {
				rows[p][q] = r.Intn(1 + r.Intn(seqMost+1))
			}
		}
		self, live := 1+r.Intn(peersMost), numbers(1+r.Intn(1<<peersMost-1))
		own := rows[1+r.Intn(peersMost)]
		askLeast(t, stable.Cut(rows, self, own, live), rows, self, own, live)
		askCut(t, rows, self, own, live, wantCut(rows, self, own, live))
		cut := stable.Cut(rows, self, rows[self], live)
		for _, p := range live {
			if !leq(cut, rows[p]) {
				t.Fatalf("Cut(%v, %d, %v, %v) = %v, which is not Leq the row of %d", rows, self, rows[self], live, cut, p)
			}
		}
	}
}

// anyHistory answers a history of some peers that commit at random behind what they have delivered, or deliver what another one committed, and what each of them has delivered step by step.
func anyHistory(r *rand.Rand, peers int) (history, [][peersMost + 1]api.Vec) {
	h := history{}
	var have [peersMost + 1]api.Vec
	steps := [][peersMost + 1]api.Vec{have}
	for range 20 + r.Intn(200) {
		p, q := 1+r.Intn(peers), 1+r.Intn(peers)
		d := api.Dot{Peer: q, Seq: have[p][q] + 1}
		if p == q {
			h[d] = have[p]
		}
		if p == q || d.Seq <= have[q][q] && leq(h[d], have[p]) {
			have[p][q] = d.Seq
		}
		steps = append(steps, have)
	}
	return h, steps
}

// P20.2, P20.1: random histories of peers who tell each other what they have, late, doubled and in any order: each row that is taken in is closed, the cut of each peer is closed, never falls, and all that are live have it.
func TestCutsOfRandomHistories(t *testing.T) {
	r := rand.New(rand.NewSource(202))
	refused, moved := 0, 0
	for range 400 {
		peers := 1 + r.Intn(peersMost)
		h, steps := anyHistory(r, peers)
		var rows [peersMost + 1]table
		var cuts [peersMost + 1]api.Vec
		for k, have := range steps {
			for range 4 {
				p, q := 1+r.Intn(peers), 1+r.Intn(peers)
				told := steps[r.Intn(k+1)][q]
				want, ok := wantAccept(rows[p], q, told, have[p])
				rows[p] = askAccept(t, rows[p], q, told, have[p], want, ok)
				if !ok {
					refused++
				}
			}
			for p := 1; p <= peers; p++ {
				live := numbers(1<<peers - 1)
				cut := stable.Cut(rows[p], p, have[p], live)
				askLeast(t, cut, rows[p], p, have[p], live)
				for _, q := range live {
					if !leq(cut, have[q]) {
						t.Fatalf("%d's cut %v is ahead of what %d has, %v", p, cut, q, have[q])
					}
				}
				if !h.closed(have[p]) || !h.closed(cut) || !leq(cuts[p], cut) {
					t.Fatalf("%d's cut %v of %v behind %v in %v", p, cut, have[p], cuts[p], h)
				}
				if cut != cuts[p] && peers > 1 {
					moved++
				}
				cuts[p] = cut
			}
		}
	}
	if refused == 0 || moved == 0 {
		t.Error(refused, moved)
	}
}

// P20.2: what is below a cut of closed rows can be delivered alone, ahead of all that is not below it.
func TestWhatIsBelowACutComesFirst(t *testing.T) {
	h := story()
	sound := closedOnes(h, within(h))
	for _, own := range sound {
		for _, row := range sound {
			cut := stable.Cut(table{2: row}, 1, own, []int{1, 2})
			below := slices.DeleteFunc(h.txs(), func(x api.Tx) bool { return x.Dot.Seq > cut[x.Dot.Peer] })
			delivered, waiting, have := order.Drain(api.Vec{}, below)
			if have != cut || len(waiting) > 0 || !order.Closed(delivered) {
				t.Fatalf("below %v: %v, and %d wait", cut, have, len(waiting))
			}
		}
	}
}
