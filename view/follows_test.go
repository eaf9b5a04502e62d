package view_test

import (
	"math"
	"math/rand"
	"slices"
	"testing"

	"plexus/api"
	"plexus/view"
)

// Where a peer may stand in an account of views.
const (
	nowhere = iota
	warm
	cold
)

// account tells of views that Check where each peer stands, as the document's words have it.
type account struct {
	self  int
	where [peersMost + 1]int
}

// accountOf answers the account of views.
func accountOf(v api.Views) account {
	a := account{self: v.Self}
	for _, n := range v.Active {
		a.where[n] = warm
	}
	for _, n := range v.Passive {
		a.where[n] = cold
	}
	return a
}

// those answers the peers that stand somewhere, rising.
func (a account) those(where int) []int {
	var l []int
	for n := 1; n <= peersMost; n++ {
		if n != a.self && a.where[n] == where {
			l = append(l, n)
		}
	}
	return l
}

// views answers the views of which an account tells.
func (a account) views() api.Views {
	return api.Views{Self: a.self, Active: a.those(warm), Passive: a.those(cold)}
}

// nobody tells whether a number is nobody's, or Self.
func (a account) nobody(peer int) bool {
	return peer < 1 || peer > peersMost || peer == a.self
}

// fallsOn answers the number on which a draw falls, one after the other, round.
func fallsOn(l []int, draw int) int {
	for i, n := range l {
		if draw <= 0 && i == 0 || draw > 0 && draw%len(l) == i {
			return n
		}
	}
	return 0
}

// know answers the account behind Know.
func (a account) know(peer int, draw int) account {
	if a.nobody(peer) || a.where[peer] != nowhere {
		return a
	}
	if l := a.those(cold); len(l) == passiveMost {
		a.where[fallsOn(l, draw)] = nowhere
	}
	a.where[peer] = cold
	return a
}

// cool answers the account behind Cool.
func (a account) cool(peer int, draw int) account {
	if a.nobody(peer) || a.where[peer] != warm {
		return a
	}
	a.where[peer] = nowhere
	return a.know(peer, draw)
}

// add answers the account behind Add, and who is told.
func (a account) add(peer int, draw int) (account, int) {
	if a.nobody(peer) || a.where[peer] == warm {
		return a, 0
	}
	gone := 0
	if l := a.those(warm); len(l) == activeMost {
		gone = fallsOn(l, draw)
		a = a.cool(gone, draw)
	}
	a.where[peer] = warm
	return a, gone
}

// forget answers the account behind Forget.
func (a account) forget(peer int) account {
	if !a.nobody(peer) {
		a.where[peer] = nowhere
	}
	return a
}

// sample answers the sample of an account.
func (a account) sample(draw int) []int {
	var all []int
	for n := 1; n <= peersMost; n++ {
		if n != a.self && a.where[n] != nowhere {
			all = append(all, n)
		}
	}
	from := slices.Index(all, fallsOn(all, draw))
	l := []int{a.self}
	for i, n := range all {
		if (i-from+len(all))%len(all) < sampleMost {
			l = append(l, n)
		}
	}
	slices.Sort(l)
	return l
}

// askTold asks for what all calls answer of views that Check, by one peer and draw, and that what they answer Checks.
func askTold(t *testing.T, v api.Views, peer int, draw int) {
	t.Helper()
	a := accountOf(v)
	askCheck(t, v, true)
	added, gone := a.add(peer, draw)
	askAdd(t, v, peer, draw, added.views(), gone)
	askKnow(t, v, peer, draw, a.know(peer, draw).views())
	askCool(t, v, peer, draw, a.cool(peer, draw).views())
	askForget(t, v, peer, a.forget(peer).views())
	askSample(t, v, draw, a.sample(draw))
	for i, w := range answers(v, peer, draw) {
		if !view.Check(w) {
			t.Errorf("call %d of %v, %d, %d: %v does not Check", i, v, peer, draw, w)
		}
	}
}

// allViews tells all views of one peer that may be.
func allViews(self int, tell func(api.Views)) {
	var further func(a account, n int)
	further = func(a account, n int) {
		switch {
		case n > peersMost:
			if len(a.those(warm)) <= activeMost && len(a.those(cold)) <= passiveMost {
				tell(a.views())
			}
		case n == self:
			further(a, n+1)
		default:
			for a.where[n] = nowhere; a.where[n] <= cold; a.where[n]++ {
				further(a, n+1)
			}
		}
	}
	further(account{self: self}, 1)
}

// P25.1 to P25.4: all views of a peer, each with a peer and a draw, as the document's words tell.
func TestAllViews(t *testing.T) {
	r := rand.New(rand.NewSource(25))
	count := 0
	for _, self := range []int{1, 6, 12} {
		allViews(self, func(v api.Views) {
			count++
			if count%3 == self%3 {
				askTold(t, v, r.Intn(peersMost)+1, r.Intn(24))
			}
		})
	}
	// 1981 without anybody in Active, 11143 with one, 28105 with two, 42240 with three, and as many with four.
	if want := 3 * (1981 + 11143 + 28105 + 42240 + 42240); count != want {
		t.Errorf("%d views, want %d", count, want)
	}
}

// P25.1 to P25.4: some views with whatever peer and draw.
func TestAllPeersAndDraws(t *testing.T) {
	count := 0
	allViews(5, func(v api.Views) {
		count++
		if count%1250 != 0 && (len(v.Active)+len(v.Passive) < 11 || count%40 != 0) {
			return
		}
		for _, peer := range append(numbers("0 1 2 3 4 5 6 7 8 9 10 11 12 13 -1 -5"), math.MaxInt, math.MinInt) {
			for _, draw := range append(draws(), 5, 6, 9, 10, 11, 12) {
				askTold(t, v, peer, draw)
			}
		}
	})
}

// P25.1: small lists of all numbers around those that may be, told number by number.
func TestCheckOfSmallViews(t *testing.T) {
	around := []int{-1, 0, 1, 2, 3, 11, 12, 13}
	lists := [][]int{nil}
	for _, x := range around {
		lists = append(lists, []int{x})
		for _, y := range around {
			lists = append(lists, []int{x, y})
		}
	}
	mayBe := func(self int, l []int, other []int) bool {
		for i, n := range l {
			if n < 1 || n > peersMost || n == self || i > 0 && l[i-1] >= n || slices.Contains(other, n) {
				return false
			}
		}
		return true
	}
	for _, self := range around {
		for _, active := range lists {
			for _, passive := range lists {
				want := self >= 1 && self <= peersMost && mayBe(self, active, passive) && mayBe(self, passive, active)
				if v := (api.Views{Self: self, Active: active, Passive: passive}); view.Check(v) != want {
					t.Fatalf("Check(%v) = %v", v, !want)
				}
			}
		}
	}
}

// P25.2: Pick of small lists told one by one, whatever the draw.
func TestPickOfSmallLists(t *testing.T) {
	var lists [][]int
	for code := range 4 * 4 * 4 * 4 {
		var l []int
		for c := code; c > 0; c /= 4 {
			// 0 ends none: what it would stand for is left out.
			if c%4 > 0 {
				l = append(l, c%4)
			}
		}
		lists = append(lists, l)
	}
	for _, l := range lists {
		for _, not := range lists[:64] {
			var free []int
			for _, n := range l {
				if !slices.Contains(not, n) {
					free = append(free, n)
				}
			}
			for _, draw := range draws() {
				askPick(t, l, not, draw, fallsOn(free, draw))
			}
		}
	}
}

// P25.4: histories by chance, from views of nobody: they stay such as Check, and as they are told.
func TestHistories(t *testing.T) {
	r := rand.New(rand.NewSource(254))
	for range 300 {
		a := account{self: r.Intn(peersMost) + 1}
		v := a.views()
		for range 100 {
			peer, draw := r.Intn(peersMost+3)-1, r.Intn(40)-5
			gone, want := 0, 0
			switch r.Intn(6) {
			case 0, 1:
				v, gone = view.Add(v, peer, draw)
				a, want = a.add(peer, draw)
			case 2, 3:
				v, a = view.Know(v, peer, draw), a.know(peer, draw)
			case 4:
				v, a = view.Cool(v, peer, draw), a.cool(peer, draw)
			case 5:
				v, a = view.Forget(v, peer), a.forget(peer)
			}
			if !view.Check(v) || !same(v, a.views()) || gone != want {
				t.Fatalf("%v, %d, want %v, %d", v, gone, a.views(), want)
			}
			askSample(t, v, draw, a.sample(draw))
		}
	}
}

// P25.2, P25.4: who is told by Add is known behind it, and all others that were had or known still are.
func TestNobodyIsLost(t *testing.T) {
	count := 0
	allViews(9, func(v api.Views) {
		count++
		if count%7 != 0 || len(v.Active) < activeMost {
			return
		}
		peer := count%peersMost + 1
		got, gone := view.Add(v, peer, count)
		for n := 1; n <= peersMost; n++ {
			was := slices.Contains(v.Active, n) || slices.Contains(v.Passive, n)
			is := slices.Contains(got.Active, n) || slices.Contains(got.Passive, n)
			if is != (was || n == peer && n != v.Self) {
				t.Fatalf("Add(%v, %d, %d) = %v, %d: what of %d?", v, peer, count, got, gone, n)
			}
		}
		if gone != 0 && !slices.Contains(got.Passive, gone) {
			t.Fatalf("Add(%v, %d, %d) = %v, %d: who is told is not known", v, peer, count, got, gone)
		}
	})
}
