package stable_test

import (
	"math"
	"slices"
	"testing"

	"plexus/api"
	"plexus/stable"
)

// peersMost and seqMost are the limits, as the document has them.
const (
	peersMost = 12
	seqMost   = 1 << 20
)

// table is rows, by their peers.
type table = [peersMost + 1]api.Vec

// all answers a vector that has one number of each peer.
func all(n int) api.Vec {
	var v api.Vec
	for p := 1; p <= peersMost; p++ {
		v[p] = n
	}
	return v
}

// one answers a vector of zeros but at one place.
func one(p int, n int) api.Vec {
	var v api.Vec
	v[p] = n
	return v
}

// with answers a vector with another number at one place.
func with(v api.Vec, p int, n int) api.Vec {
	v[p] = n
	return v
}

// numbers answers the list of those whose bits are set, that of 1 being the least one.
func numbers(bits int) []int {
	var l []int
	for n := 1; n <= peersMost; n++ {
		if bits>>(n-1)&1 == 1 {
			l = append(l, n)
		}
	}
	return l
}

// everyone answers 1 to MaxPeers.
func everyone() []int {
	return numbers(1<<peersMost - 1)
}

// distinct answers rows no two of which are the same, each place of which tells whose it is and of whom; that of nobody is not zero either.
func distinct() table {
	var rows table
	for p := range rows {
		for q := 1; q <= peersMost; q++ {
			rows[p][q] = 100 + (p*7+q*5)%13*20 + p
		}
	}
	return rows
}

// isPeer is the document's account of who is a peer.
func isPeer(n int) bool {
	return 1 <= n && n <= peersMost
}

// mayBe is the document's account of a vector that Checks.
func mayBe(v api.Vec) bool {
	for p, n := range v {
		if n < 0 || n > seqMost || p == 0 && n != 0 {
			return false
		}
	}
	return true
}

// leq is the document's account of Leq.
func leq(a api.Vec, b api.Vec) bool {
	for p := range a {
		if a[p] > b[p] {
			return false
		}
	}
	return true
}

// mayLive is the document's account of a list of peers that Checks.
func mayLive(l []int) bool {
	for k, n := range l {
		if !isPeer(n) || k > 0 && n <= l[k-1] {
			return false
		}
	}
	return true
}

// wantAccept is the document's account of Accept.
func wantAccept(rows table, peer int, row api.Vec, v api.Vec) (table, bool) {
	if isPeer(peer) && mayBe(row) && leq(row, v) && leq(rows[peer], row) {
		rows[peer] = row
		return rows, true
	}
	return rows, false
}

// wantCut is the document's account of Cut, told place by place.
func wantCut(rows table, self int, own api.Vec, live []int) api.Vec {
	if !mayLive(live) || len(live) < 1 || !isPeer(self) {
		return api.Vec{}
	}
	var cut api.Vec
	for q := range cut {
		cut[q] = own[q]
		for p := 1; p <= peersMost; p++ {
			if p != self && slices.Contains(live, p) && rows[p][q] < cut[q] {
				cut[q] = rows[p][q]
			}
		}
	}
	return cut
}

// askAccept asks Accept, and answers the rows behind it.
func askAccept(t *testing.T, rows table, peer int, row api.Vec, v api.Vec, want table, wantOk bool) table {
	t.Helper()
	got, ok := stable.Accept(rows, peer, row, v)
	if got != want || ok != wantOk {
		t.Errorf("Accept(%v, %d, %v, %v) = %v, %v, want %v, %v", rows, peer, row, v, got, ok, want, wantOk)
	}
	return got
}

// askCut asks Cut.
func askCut(t *testing.T, rows table, self int, own api.Vec, live []int, want api.Vec) {
	t.Helper()
	if got := stable.Cut(rows, self, own, live); got != want {
		t.Errorf("Cut(%v, %d, %v, %v) = %v, want %v", rows, self, own, live, got, want)
	}
}

// The limits are those that the document names.
func TestLimits(t *testing.T) {
	if api.MaxPeers != peersMost || api.MaxSeq != seqMost {
		t.Error(api.MaxPeers, api.MaxSeq)
	}
}

// P20.1: the chapter's example.
func TestExample(t *testing.T) {
	rows := askAccept(t, table{}, 2, api.Vec{1: 3}, api.Vec{1: 5}, table{2: {1: 3}}, true)
	askCut(t, rows, 1, api.Vec{1: 5}, []int{1, 2}, api.Vec{1: 3})
}

// P20.1: rows of several peers that grow step by step, taken in one after another; cuts of them behind each step, of 1, who lives with the others, and of 4, who does not. What is refused changes nothing.
func TestRowsThatGrow(t *testing.T) {
	type step struct {
		peer int
		row  api.Vec
		v    api.Vec
		ok   bool
		cut  api.Vec
		away api.Vec
	}
	var rows, want table
	for k, s := range []step{
		{2, api.Vec{}, api.Vec{1: 2, 3: 1}, true, api.Vec{}, api.Vec{}},
		{2, api.Vec{1: 2}, api.Vec{1: 2, 3: 1}, true, api.Vec{}, api.Vec{}},
		{3, api.Vec{1: 1, 3: 1}, api.Vec{1: 2, 3: 1}, true, api.Vec{1: 1}, api.Vec{}},
		{3, api.Vec{1: 2, 3: 2}, api.Vec{1: 2, 3: 1}, false, api.Vec{1: 1}, api.Vec{}},
		{3, api.Vec{1: 2, 3: 2}, api.Vec{1: 2, 3: 2}, true, api.Vec{1: 2}, api.Vec{}},
		{1, api.Vec{1: 1}, api.Vec{1: 2, 3: 2}, true, api.Vec{1: 2}, api.Vec{1: 1}},
		{2, api.Vec{1: 1, 3: 2}, api.Vec{1: 3, 3: 2}, false, api.Vec{1: 2}, api.Vec{1: 1}},
		{2, api.Vec{1: 2, 3: 2}, api.Vec{1: 3, 3: 2}, true, api.Vec{1: 2, 3: 2}, api.Vec{1: 1}},
		{1, api.Vec{1: 4, 2: 1, 3: 1}, api.Vec{1: 4, 2: 1, 3: 2}, true, api.Vec{1: 2, 3: 2}, api.Vec{1: 2, 3: 1}},
		{3, api.Vec{1: 4, 2: 1, 3: 5}, api.Vec{1: 4, 2: 1, 3: 5}, true, api.Vec{1: 2, 3: 2}, api.Vec{1: 2, 3: 1}},
		{2, api.Vec{1: 3, 2: 1, 3: 3}, api.Vec{1: 4, 2: 1, 3: 5}, true, api.Vec{1: 3, 2: 1, 3: 3}, api.Vec{1: 3, 2: 1, 3: 1}},
	} {
		if s.ok {
			want[s.peer] = s.row
		}
		rows = askAccept(t, rows, s.peer, s.row, s.v, want, s.ok)
		askCut(t, rows, 1, s.v, []int{1, 2, 3}, s.cut)
		askCut(t, rows, 4, s.v, []int{1, 2, 3}, s.away)
		if t.Failed() {
			t.Fatalf("at the step %d", k)
		}
	}
}

// P20.1: a row of each peer, 1 and MaxPeers too, is taken in at its place, and nowhere else.
func TestAcceptOfEachPeer(t *testing.T) {
	for _, rows := range []table{{}, distinct()} {
		for p := 1; p <= peersMost; p++ {
			want := rows
			want[p] = all(900)
			askAccept(t, rows, p, all(900), all(1000), want, true)
		}
	}
}

// P20.1: the edges of each peer's row: equal to the one that there is, to what is delivered, to both; all zeros; all that there may be.
func TestAcceptAtItsEdges(t *testing.T) {
	for p := 1; p <= peersMost; p++ {
		for _, s := range []struct{ was, row, v api.Vec }{
			{all(3), all(3), all(5)}, {all(3), all(5), all(5)}, {all(3), all(4), all(5)}, {all(3), all(3), all(3)},
			{api.Vec{}, api.Vec{}, api.Vec{}}, {api.Vec{}, api.Vec{}, all(5)}, {api.Vec{}, all(5), all(5)},
			{api.Vec{}, all(seqMost), all(seqMost)}, {all(seqMost), all(seqMost), all(seqMost)}, {all(seqMost - 1), all(seqMost), all(seqMost)},
			{one(1, 3), one(1, 3), one(1, 3)}, {one(12, 3), one(12, 4), one(12, 4)}, {one(1, 2), api.Vec{1: 2, 12: 1}, api.Vec{1: 3, 5: 2, 12: 1}},
		} {
			rows := distinct()
			rows[p] = s.was
			want := rows
			want[p] = s.row
			behind := askAccept(t, rows, p, s.row, s.v, want, true)
			askAccept(t, behind, p, s.row, s.v, want, true)
		}
	}
}

// P20.1: each number of a row counts, whatever the others are: one more than is delivered, or one less than was told, and it is refused.
func TestAcceptAtEachPlace(t *testing.T) {
	for p := 1; p <= peersMost; p++ {
		rows := distinct()
		rows[p] = all(3)
		for q := 1; q <= peersMost; q++ {
			for n := range 9 {
				row := with(all(4), q, n)
				want := rows
				if n >= 3 && n <= 5 {
					want[p] = row
				}
				askAccept(t, rows, p, row, all(5), want, n >= 3 && n <= 5)
			}
		}
	}
}

// P20.1: the rows of others are not asked: they may be greater, lesser, or none that may be.
func TestAcceptAsksNoOtherRow(t *testing.T) {
	for _, other := range []api.Vec{{}, all(2), all(9), all(seqMost + 1), all(-1), one(0, 7), all(math.MaxInt), all(math.MinInt)} {
		for p := 1; p <= peersMost; p++ {
			var rows table
			for q := range rows {
				rows[q] = other
			}
			rows[p] = all(3)
			want := rows
			want[p] = all(4)
			askAccept(t, rows, p, all(4), all(5), want, true)
			askAccept(t, rows, p, all(6), all(5), rows, false)
			askAccept(t, rows, p, all(2), all(5), rows, false)
		}
	}
}

// around are vectors at which what may be ends, of two places and of that of 0.
func around() []api.Vec {
	var l []api.Vec
	for _, a := range []int{-1, 0, 1, 2, seqMost, seqMost + 1} {
		for _, b := range []int{-1, 0, 1, 2, seqMost, seqMost + 1} {
			l = append(l, api.Vec{1: a, 12: b})
		}
	}
	return append(l, one(0, 1), one(0, -1), api.Vec{0: 1, 1: 1}, api.Vec{0: -1, 12: 1}, one(6, math.MaxInt), one(6, math.MinInt), api.Vec{6: 1})
}

// P20.1: Accept of each of these as what there is, as the row and as what is delivered, against the document's words.
func TestAcceptOfAllAround(t *testing.T) {
	taken := 0
	for _, peer := range []int{-1, 0, 1, 12, 13} {
		for _, was := range around() {
			for _, row := range around() {
				for _, v := range around() {
					rows := table{1: was, 12: was}
					want, ok := wantAccept(rows, peer, row, v)
					askAccept(t, rows, peer, row, v, want, ok)
					if ok {
						taken++
					}
				}
			}
		}
	}
	if taken == 0 {
		t.Error("none is taken")
	}
}

// P20.1: cuts, written out: two, three and all that are live, with self among them and not, self alone, and one alone that is not self.
func TestCut(t *testing.T) {
	rows := table{
		1:  {1: 9, 2: 1, 3: 5, 12: 2},
		2:  {1: 3, 2: 8, 3: 4, 12: 7},
		3:  {1: 6, 2: 2, 3: 7, 12: 1},
		12: {1: 4, 2: 5, 3: 6, 5: 1, 12: 6},
	}
	own := api.Vec{1: 5, 2: 6, 3: 5, 5: 1, 12: 9}
	for _, s := range []struct {
		what string
		self int
		live []int
		want api.Vec
	}{
		{"two, with self", 1, []int{1, 2}, api.Vec{1: 3, 2: 6, 3: 4, 12: 7}},
		{"two, with self behind", 2, []int{1, 2}, api.Vec{1: 5, 2: 1, 3: 5, 12: 2}},
		{"two, without self", 3, []int{1, 2}, api.Vec{1: 3, 2: 1, 3: 4, 12: 2}},
		{"two at either end", 12, []int{1, 12}, api.Vec{1: 5, 2: 1, 3: 5, 12: 2}},
		{"two at either end, the other one self", 1, []int{1, 12}, api.Vec{1: 4, 2: 5, 3: 5, 5: 1, 12: 6}},
		{"three, with self", 2, []int{1, 2, 3}, api.Vec{1: 5, 2: 1, 3: 5, 12: 1}},
		{"three, without self", 7, []int{1, 2, 12}, api.Vec{1: 3, 2: 1, 3: 4, 12: 2}},
		{"self alone", 3, []int{3}, own},
		{"self alone, the first one", 1, []int{1}, own},
		{"self alone, the last one", 12, []int{12}, own},
		{"another one alone", 1, []int{12}, api.Vec{1: 4, 2: 5, 3: 5, 5: 1, 12: 6}},
		{"one that told nothing", 1, []int{1, 4}, api.Vec{}},
		{"self told nothing", 4, []int{4, 12}, api.Vec{1: 4, 2: 5, 3: 5, 5: 1, 12: 6}},
		{"all, of whom most told nothing", 1, everyone(), api.Vec{}},
	} {
		t.Run(s.what, func(t *testing.T) {
			askCut(t, rows, s.self, own, s.live, s.want)
		})
	}
}

// P20.1: all that are live, each of them self; and all but one, who is self and not live: the rows of all others count, each at each place.
func TestCutOfAll(t *testing.T) {
	for self := 1; self <= peersMost; self++ {
		for _, live := range [][]int{everyone(), numbers(1<<peersMost - 1 - 1<<(self-1))} {
			askCut(t, table{}, self, all(9), live, api.Vec{})
			var rows table
			for p := range rows {
				rows[p] = all(7)
			}
			rows[0], rows[self] = all(1), all(2)
			askCut(t, rows, self, all(9), live, all(7))
			askCut(t, rows, self, all(5), live, all(5))
			for p := 1; p <= peersMost; p++ {
				for q := 1; q <= peersMost; q++ {
					less := rows
					less[p] = with(rows[p], q, 1)
					want := all(7)
					if p != self {
						want[q] = 1
					}
					askCut(t, less, self, all(9), live, want)
				}
			}
		}
	}
}

// P20.1: each list of those that may be live, each self, against the document's words; the rows of all others, and self's, are not asked.
func TestCutOfEachLive(t *testing.T) {
	rows, own := distinct(), all(250)
	for bits := 1; bits < 1<<peersMost; bits++ {
		live := numbers(bits)
		for self := 1; self <= peersMost; self++ {
			want := wantCut(rows, self, own, live)
			askCut(t, rows, self, own, live, want)
			others := rows
			for p := range others {
				if p == self || !slices.Contains(live, p) {
					others[p] = all(-p)
				}
			}
			askCut(t, others, self, own, live, want)
		}
	}
}

// P20.1: Cut asks neither of own nor of the rows that they may be: their Meet is told, place by place, that of 0 too.
func TestCutOfAllAround(t *testing.T) {
	for _, own := range around() {
		for _, row := range around() {
			rows := table{2: row, 5: {1: 2, 6: 1, 12: 1}}
			for _, live := range [][]int{{2}, {1, 2}, {2, 5}, {1, 2, 5}, {1}} {
				askCut(t, rows, 1, own, live, wantCut(rows, 1, own, live))
			}
		}
	}
}

// P20.1, R7: of those that are live the list's length alone counts: what stands behind its end is not looked at.
func TestBehindTheEnd(t *testing.T) {
	rows := table{2: all(5), 3: all(4), 12: all(1)}
	live := []int{2, 3, 12, 1, 0, 99}
	askCut(t, rows, 1, all(6), live, api.Vec{})
	askCut(t, rows, 1, all(6), live[:3], all(1))
	askCut(t, rows, 1, all(6), live[:2], all(4))
	askCut(t, rows, 1, all(6), live[:1], all(5))
	askCut(t, rows, 1, all(6), live[:0], api.Vec{})
	askCut(t, rows, 1, all(6), live[3:4], all(6))
}

// R4, R8: the same call answers the same, whatever was called in between.
func TestTheSameAgain(t *testing.T) {
	rows := table{2: all(3), 3: all(2)}
	want := table{2: all(4), 3: all(2)}
	for range 100 {
		askAccept(t, rows, 2, all(4), all(5), want, true)
		askAccept(t, rows, 2, all(6), all(5), rows, false)
		askCut(t, rows, 1, all(5), []int{1, 2, 3}, all(2))
		askCut(t, want, 3, all(5), []int{1, 2, 3}, api.Vec{})
		askCut(t, want, 3, all(5), []int{2, 3}, all(4))
	}
}
