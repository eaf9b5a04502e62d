package stable_test

import (
	"math"
	"slices"
	"testing"

	"plexus/api"
	"plexus/stable"
)

// notPeers are numbers that no peer has.
func notPeers() []int {
	return []int{0, -1, -2, -12, 13, 14, 24, 1 << 20, math.MinInt, math.MinInt + 1, math.MaxInt - 1, math.MaxInt}
}

// wrongVecs are vectors that do not Check: with something at 0, or, at each other place, below 0 or beyond MaxSeq.
func wrongVecs() []api.Vec {
	l := []api.Vec{one(0, 1), one(0, -1), one(0, seqMost), one(0, math.MaxInt), one(0, math.MinInt), with(all(4), 0, 1), all(-1), all(seqMost + 1), all(math.MinInt), all(math.MaxInt)}
	for p := 1; p <= peersMost; p++ {
		for _, n := range []int{-1, seqMost + 1, math.MinInt, math.MaxInt} {
			l = append(l, one(p, n), with(all(4), p, n))
		}
	}
	return l
}

// wrongLives are lists of those that are live that do not Check: that do not rise, name one twice, or name none of the peers, at each place.
func wrongLives() [][]int {
	l := [][]int{
		{2, 1}, {12, 1}, {3, 2, 1}, {1, 3, 2}, {2, 1, 3}, {1, 2, 3, 4, 6, 5}, {12, 11, 10, 9, 8, 7, 6, 5, 4, 3, 2, 1},
		{1, 1}, {12, 12}, {1, 1, 2}, {1, 2, 2}, {1, 2, 1}, append(everyone(), 12), append(everyone(), 1), append([]int{1}, everyone()...),
		append(everyone(), 13), append([]int{0}, everyone()...), slices.Repeat([]int{1}, 5000), slices.Repeat(everyone(), 500),
	}
	for _, n := range notPeers() {
		l = append(l, []int{n}, []int{n, n})
		for place := range 4 {
			l = append(l, slices.Insert([]int{2, 5, 12}, place, n))
		}
	}
	return l
}

// P20.1, R1: a row of nobody is refused, and all rows are as they were, that of 0 too, though it would fit there.
func TestAcceptOfNobody(t *testing.T) {
	for _, peer := range notPeers() {
		for _, rows := range []table{{}, distinct(), {0: all(3)}} {
			for _, row := range []api.Vec{{}, all(4), all(900), all(-1)} {
				askAccept(t, rows, peer, row, all(900), rows, false)
			}
		}
	}
}

// P20.1: a row that does not Check is refused, though it is between what there is and what is delivered.
func TestAcceptOfARowThatMayNotBe(t *testing.T) {
	for _, row := range wrongVecs() {
		for p := 1; p <= peersMost; p++ {
			for _, s := range []struct{ was, v api.Vec }{{row, row}, {all(math.MinInt), row}, {with(all(math.MinInt), 0, math.MinInt), with(all(math.MaxInt), 0, math.MaxInt)}, {api.Vec{}, all(seqMost)}} {
				rows := distinct()
				rows[p] = s.was
				askAccept(t, rows, p, row, s.v, rows, false)
			}
		}
	}
}

// P20.1: a row that is not Leq what is delivered is refused: at one place, at all, and with less at all others.
func TestAcceptOfMoreThanIsDelivered(t *testing.T) {
	for p := 1; p <= peersMost; p++ {
		for q := 1; q <= peersMost; q++ {
			for _, s := range []struct{ row, v api.Vec }{
				{with(all(5), q, 6), all(5)}, {one(q, 1), api.Vec{}}, {one(q, seqMost), with(all(seqMost), q, seqMost-1)}, {one(q, 6), all(5)}, {all(5), with(all(5), q, 4)}, {all(5), with(all(900), q, -1)},
			} {
				rows := distinct()
				rows[p] = api.Vec{}
				askAccept(t, rows, p, s.row, s.v, rows, false)
				rows[p] = s.row
				askAccept(t, rows, p, s.row, s.v, rows, false)
			}
		}
		var rows table
		rows[p] = all(3)
		askAccept(t, rows, p, all(6), all(5), rows, false)
		askAccept(t, rows, p, all(4), with(all(5), 0, -1), rows, false)
		askAccept(t, rows, p, all(4), api.Vec{}, rows, false)
	}
}

// P20.1: a row that the one that there is of that peer is not Leq is refused: with less at one place, at all, and with more at all others.
func TestAcceptOfLessThanThereIs(t *testing.T) {
	for p := 1; p <= peersMost; p++ {
		for q := 1; q <= peersMost; q++ {
			for _, s := range []struct{ was, row api.Vec }{
				{all(5), with(all(5), q, 4)}, {one(q, 1), api.Vec{}}, {all(seqMost), with(all(seqMost), q, seqMost-1)}, {all(5), with(all(900), q, 4)}, {all(5), with(all(5), q, 0)}, {one(q, seqMost+1), all(seqMost)},
			} {
				rows := distinct()
				rows[p] = s.was
				askAccept(t, rows, p, s.row, all(seqMost), rows, false)
			}
		}
		for _, was := range []api.Vec{all(5), one(0, 1), with(all(2), 0, 1), all(math.MaxInt)} {
			rows := distinct()
			rows[p] = was
			askAccept(t, rows, p, all(4), all(seqMost), rows, false)
		}
	}
}

// P20.1: where there is one that may not be, below 0, a row that it is Leq takes its place.
func TestAcceptUponOneBelowZero(t *testing.T) {
	for p := 1; p <= peersMost; p++ {
		for _, was := range []api.Vec{all(-1), one(p, -1), one(0, -1), all(math.MinInt)} {
			rows := distinct()
			rows[p] = was
			want := rows
			want[p] = all(4)
			askAccept(t, rows, p, all(4), all(5), want, true)
		}
	}
}

// P20.1, R1: live that does not Check, or has none, or self that is no peer, alone and together: the Cut is zero, whatever own and the rows are.
func TestCutOfWrongOnes(t *testing.T) {
	rows := distinct()
	selves := append(notPeers(), everyone()...)
	for _, own := range []api.Vec{all(250), {1: 1}, all(-1), with(all(250), 0, 7), all(math.MaxInt)} {
		for _, self := range selves {
			for _, live := range append(wrongLives(), nil, []int{}) {
				askCut(t, rows, self, own, live, api.Vec{})
			}
		}
		for _, self := range notPeers() {
			for _, live := range [][]int{{1}, {12}, {1, 2}, {3, 7, 12}, everyone()} {
				askCut(t, rows, self, own, live, api.Vec{})
			}
		}
	}
}

// R3: what is handed in is as it was behind each call, what live has behind its end too; rows are values, so that what was asked of stays beside what is answered.
func TestArguments(t *testing.T) {
	lives := append(wrongLives(), nil, []int{}, []int{1}, []int{12}, []int{1, 2, 12}, everyone())
	for _, live := range lives {
		room := append(slices.Clone(live), 77, 3, -1)
		given, was := room[:len(live)], slices.Clone(room)
		for _, self := range []int{-1, 0, 1, 5, 12, 13} {
			rows, own := distinct(), all(250)
			askCut(t, rows, self, own, given, wantCut(distinct(), self, all(250), live))
			if !slices.Equal(room, was) || rows != distinct() || own != all(250) {
				t.Fatalf("%v was %v, own is %v", room, was, own)
			}
		}
	}
	for _, peer := range []int{-1, 0, 1, 5, 12, 13} {
		for _, row := range []api.Vec{all(3), all(900), all(-1)} {
			rows, given, v := distinct(), row, all(900)
			stable.Accept(rows, peer, given, v)
			if rows != distinct() || given != row || v != all(900) {
				t.Fatalf("Accept of %v of %d changed an argument", row, peer)
			}
		}
	}
}

// R3: what is done to an answer is seen neither in what was handed in, nor in what is answered next.
func TestAnswersAreTheCallers(t *testing.T) {
	rows := table{1: all(2), 2: all(3)}
	for _, ok := range []bool{true, false} {
		row, want := all(9), rows
		if ok {
			row = all(4)
			want[2] = row
		}
		for range 3 {
			got := askAccept(t, rows, 2, row, all(5), want, ok)
			for p := range got {
				got[p] = all(99)
			}
			cut := stable.Cut(rows, 3, all(5), []int{1, 2})
			cut[1] = 99
			askCut(t, rows, 3, all(5), []int{1, 2}, all(2))
		}
	}
}
