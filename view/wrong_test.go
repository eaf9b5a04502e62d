package view_test

import (
	"math"
	"slices"
	"testing"

	"plexus/api"
	"plexus/view"
)

// wrongViews are views that may not be.
func wrongViews() []api.Views {
	l := []api.Views{{}, {Active: []int{}, Passive: []int{}}}
	// Self is nobody.
	for _, self := range []int{0, -1, 13, 14, math.MaxInt, math.MinInt} {
		l = append(l, of(self, "", ""), of(self, "2 3", "4 5"), of(self, "1 2 3 4", "5 6 7 8 9 10 11 12"))
	}
	for _, s := range []string{
		// They do not rise, or one stands there twice.
		"3 2", "2 2", "2 3 3", "2 4 3", "4 2 3", "12 1", "2 2 2 2", "12 11 10 9",
		// Self, or nobody.
		"6", "5 6", "6 7", "0", "-1", "0 2", "-3 2", "13", "12 13", "2 14", "-9223372036854775808 2", "2 9223372036854775807",
	} {
		l = append(l, of(6, s, ""), of(6, "", s), of(6, s, "8"), of(6, "8", s), of(6, s, s))
	}
	return append(l,
		// One is in both.
		of(6, "2", "2"), of(6, "2 3", "3 4"), of(6, "3 4", "2 3"), of(6, "1 12", "2 3 12"), of(6, "1 2 3 4", "4 5 7 8 9 10 11 12"), of(6, "1 3 5 7", "1 3 5 7"),
		// They are too many.
		of(6, "1 2 3 4 5", ""), of(6, "1 2 3 4 5", "7"), of(6, "1 2 3 4 5 7 8 9 10 11 12", ""), of(6, "", "1 2 3 4 5 7 8 9 10"), of(6, "12", "1 2 3 4 5 7 8 9 10"), of(6, "", "1 2 3 4 5 7 8 9 10 11 12"),
		of(6, "1 2 3 4 5", "7 8 9 10 11 12"), of(12, "1 2", "3 4 5 6 7 8 9 10 11"),
		api.Views{Self: 6, Active: make([]int, 1<<20)}, api.Views{Self: 6, Passive: slices.Repeat([]int{1, 2}, 1<<19)},
	)
}

// draws are draws that fall on all kinds of places.
func draws() []int {
	return []int{0, 1, 2, 3, 4, 7, 8, 100, -1, -2, math.MaxInt, math.MinInt}
}

// P25.1, R2, R6: views that do not Check are answered as they are, nobody is told besides, and there is no sample of them.
func TestWrongViews(t *testing.T) {
	for _, v := range wrongViews() {
		askCheck(t, v, false)
		for i, draw := range draws() {
			askSample(t, v, draw, nil)
			for _, peer := range []int{0, 1, 2, 6, 8, 12, 13, -1} {
				// One draw for each peer is enough where the lists are so long that it takes a while.
				if len(v.Active)+len(v.Passive) > 100 && i > 0 {
					break
				}
				askAdd(t, v, peer, draw, v, 0)
				askKnow(t, v, peer, draw, v)
				askCool(t, v, peer, draw, v)
				askForget(t, v, peer, v)
			}
		}
	}
}

// P25.1, R7: of a list its length alone counts, not the room behind its end, nor what stands there.
func TestRoomIsNobodys(t *testing.T) {
	all := numbers("1 2 3 4 5 7 8 9 10 11 12")
	for n := range activeMost + 1 {
		v := api.Views{Self: 6, Active: all[:n], Passive: all[n:n]}
		if !view.Check(v) {
			t.Errorf("%v with room behind does not Check", v)
		}
		if got := view.Sample(v, 0); len(got) != min(n, sampleMost)+1 {
			t.Errorf("Sample(%v, 0) = %v", v, got)
		}
	}
	if v := (api.Views{Self: 6, Passive: all[:passiveMost]}); !view.Check(v) {
		t.Errorf("%v with room behind does not Check", v)
	}
	if got := view.Pick(all[:2], all[:1], 5); got != 2 {
		t.Errorf("Pick of numbers with room behind = %d, want 2", got)
	}
}

// R3: nil and empty lists are the same to every call.
func TestNothing(t *testing.T) {
	for _, active := range [][]int{nil, {}} {
		for _, passive := range [][]int{nil, {}} {
			v := api.Views{Self: 3, Active: active, Passive: passive}
			got, gone := view.Add(v, 1, 0)
			if !view.Check(v) || !same(got, of(3, "1", "")) || gone != 0 || !same(view.Know(v, 1, 0), of(3, "", "1")) || !same(view.Cool(v, 1, 0), v) || !same(view.Forget(v, 1), v) || !slices.Equal(view.Sample(v, 0), []int{3}) || view.Pick(active, passive, 0) != 0 {
				t.Errorf("%#v is not as an empty one", v)
			}
		}
	}
}

// R1: many numbers are picked from among many that are barred, and it ends soon.
func TestPickOfMany(t *testing.T) {
	var l, odd, all []int
	for n := range 1 << 20 {
		l = append(l, n)
		all = append(all, 1<<20-1-n)
		if n%2 == 1 {
			odd = append(odd, n)
		}
	}
	askPick(t, l, odd, 1000, 2000)
	askPick(t, l, odd, 1<<19+3, 6)
	askPick(t, all, odd, 0, 1<<20-2)
	askPick(t, l, l[1:], 77, 0)
	askPick(t, all, l[3:], 1, 1)
	askPick(t, l, all, 77, 0)
}

// answers answers what each call that changes views makes of them.
func answers(v api.Views, peer int, draw int) []api.Views {
	added, _ := view.Add(v, peer, draw)
	return []api.Views{added, view.Know(v, peer, draw), view.Cool(v, peer, draw), view.Forget(v, peer)}
}

// spoil turns all numbers of a list, those in the room behind its end, too, and appends to it.
func spoil(l []int) {
	for i, all := 0, l[:cap(l)]; i < len(all); i++ {
		all[i] += 100
	}
	l = append(l, 55)
	l[len(l)-1]++
}

// someViews are views that may be and that may not, with lists that are empty, half full and full.
func someViews() []api.Views {
	short := slices.DeleteFunc(wrongViews(), func(v api.Views) bool {
		return len(v.Active)+len(v.Passive) > 100
	})
	return append(short, of(6, "", ""), of(6, "2", ""), of(6, "", "2"), of(6, "1 12", "2 3"), of(6, "1 2 3 4", ""), of(6, "1 2 3 4", "5 7 8"), of(6, "", "1 2 3 4 5 7 8 9"), of(6, "1 2 11", "3 4 5 7 8 9 10 12"), of(6, "1 2 3 4", "5 7 8 9 10 11 12"))
}

// R3: what is answered is new memory: neither the views that were handed in nor other answers, nor the other list of it, change with it.
func TestAnswersAreNewMemory(t *testing.T) {
	for _, v := range someViews() {
		for peer := -1; peer <= peersMost+1; peer++ {
			for _, draw := range []int{0, 1, 6} {
				given, want := handed(v), answers(v, peer, draw)
				got, again := answers(given, peer, draw), answers(given, peer, draw)
				for i := range got {
					spoil(got[i].Active)
					askKept(t, "what is answered turned", given, v)
					if !same(api.Views{Self: v.Self, Active: want[i].Active, Passive: got[i].Passive}, want[i]) {
						t.Errorf("call %d of %v, %d, %d: its Passive changed with its Active", i, v, peer, draw)
					}
					spoil(got[i].Passive)
					askKept(t, "what is answered turned", given, v)
				}
				spoil(given.Active)
				spoil(given.Passive)
				if !slices.EqualFunc(again, want, same) {
					t.Errorf("calls of %v, %d, %d: the answers changed with the argument, or with others: %v, want %v", v, peer, draw, again, want)
				}
			}
		}
	}
}

// R3: a sample is new memory.
func TestSampleIsNewMemory(t *testing.T) {
	for _, v := range someViews() {
		for draw := range 12 {
			given, want := handed(v), view.Sample(v, draw)
			got, again := view.Sample(given, draw), view.Sample(given, draw)
			spoil(got)
			askKept(t, "a sample turned", given, v)
			spoil(given.Active)
			spoil(given.Passive)
			if !slices.Equal(again, want) {
				t.Errorf("Sample of %v, %d is %v now, want %v", v, draw, again, want)
			}
		}
	}
}

// R3, R7: the lists that are handed in may be pieces of one, each in the other one's room: what is ahead in it is not written over.
func TestListsOfOneMemory(t *testing.T) {
	all := numbers("1 2 3 4 5 7 8 9 10 11 12")
	was := slices.Clone(all)
	for i := range activeMost + 1 {
		for j := i; j <= min(i+passiveMost, len(all)); j++ {
			v := api.Views{Self: 6, Active: all[:i], Passive: all[i:j]}
			apart := api.Views{Self: 6, Active: slices.Clone(all[:i]), Passive: slices.Clone(all[i:j])}
			for peer := range peersMost + 2 {
				for draw := range 9 {
					want := answers(apart, peer, draw)
					got := answers(v, peer, draw)
					if !slices.EqualFunc(got, want, same) || !slices.Equal(view.Sample(v, draw), view.Sample(apart, draw)) || view.Pick(all[:i], all[:j], draw) != 0 {
						t.Fatalf("%v, %d, %d: %v, want %v", v, peer, draw, got, want)
					}
					if !slices.Equal(all, was) {
						t.Fatalf("%v, %d, %d: the memory is %v now", v, peer, draw, all)
					}
				}
			}
		}
	}
}

// R8: the same call answers the same.
func TestTheSameAgain(t *testing.T) {
	for _, v := range someViews() {
		for _, draw := range draws() {
			first := answers(v, 7, draw)
			for range 3 {
				if got := answers(v, 7, draw); !slices.EqualFunc(got, first, same) {
					t.Errorf("%v, %d: %v, and then %v", v, draw, first, got)
				}
			}
		}
	}
}
