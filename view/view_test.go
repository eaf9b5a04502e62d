package view_test

import (
	"math"
	"slices"
	"strconv"
	"strings"
	"testing"

	"plexus/api"
	"plexus/view"
)

// The limits, as the document tells them.
const (
	peersMost   = 12
	activeMost  = 4
	passiveMost = 8
	sampleMost  = 3
)

// numbers answers the numbers that a text tells.
func numbers(s string) []int {
	var l []int
	for _, w := range strings.Fields(s) {
		n, err := strconv.Atoi(w)
		if err != nil {
			panic(err)
		}
		l = append(l, n)
	}
	return l
}

// of answers views whose lists are told by texts.
func of(self int, active string, passive string) api.Views {
	return api.Views{Self: self, Active: numbers(active), Passive: numbers(passive)}
}

// roomy answers the same numbers with room behind their end, in which stand others.
func roomy(l []int) []int {
	return slices.Concat(l, []int{7, 99, -1, 3, 12})[:len(l)]
}

// handed answers views as the tests hand them in: with room behind their lists' ends.
func handed(v api.Views) api.Views {
	return api.Views{Self: v.Self, Active: roomy(v.Active), Passive: roomy(v.Passive)}
}

// same tells whether views are the same: an empty list is so as none.
func same(v api.Views, w api.Views) bool {
	return v.Self == w.Self && slices.Equal(v.Active, w.Active) && slices.Equal(v.Passive, w.Passive)
}

// askKept asks whether views that were handed in are what they were, and what stands in the room behind their lists' ends.
func askKept(t *testing.T, call string, given api.Views, was api.Views) {
	t.Helper()
	given.Active, given.Passive = given.Active[:cap(given.Active)], given.Passive[:cap(given.Passive)]
	was = handed(was)
	was.Active, was.Passive = was.Active[:cap(was.Active)], was.Passive[:cap(was.Passive)]
	if !same(given, was) {
		t.Errorf("%s: the argument is %v now, was %v", call, given, was)
	}
}

// askCheck asks whether views may be.
func askCheck(t *testing.T, v api.Views, want bool) {
	t.Helper()
	given := handed(v)
	if got := view.Check(given); got != want {
		t.Errorf("Check(%v) = %v", v, got)
	}
	askKept(t, "Check", given, v)
}

// askAdd asks for views with one more in Active, and who is told.
func askAdd(t *testing.T, v api.Views, peer int, draw int, want api.Views, gone int) {
	t.Helper()
	given := handed(v)
	if got, who := view.Add(given, peer, draw); !same(got, want) || who != gone {
		t.Errorf("Add(%v, %d, %d) = %v, %d, want %v, %d", v, peer, draw, got, who, want, gone)
	}
	askKept(t, "Add", given, v)
}

// askKnow asks for views with one more in Passive.
func askKnow(t *testing.T, v api.Views, peer int, draw int, want api.Views) {
	t.Helper()
	given := handed(v)
	if got := view.Know(given, peer, draw); !same(got, want) {
		t.Errorf("Know(%v, %d, %d) = %v, want %v", v, peer, draw, got, want)
	}
	askKept(t, "Know", given, v)
}

// askCool asks for views with one in Passive that was in Active.
func askCool(t *testing.T, v api.Views, peer int, draw int, want api.Views) {
	t.Helper()
	given := handed(v)
	if got := view.Cool(given, peer, draw); !same(got, want) {
		t.Errorf("Cool(%v, %d, %d) = %v, want %v", v, peer, draw, got, want)
	}
	askKept(t, "Cool", given, v)
}

// askForget asks for views with one in neither.
func askForget(t *testing.T, v api.Views, peer int, want api.Views) {
	t.Helper()
	given := handed(v)
	if got := view.Forget(given, peer); !same(got, want) {
		t.Errorf("Forget(%v, %d) = %v, want %v", v, peer, got, want)
	}
	askKept(t, "Forget", given, v)
}

// askPick asks for one of some.
func askPick(t *testing.T, l []int, not []int, draw int, want int) {
	t.Helper()
	given, barred := roomy(l), roomy(not)
	if got := view.Pick(given, barred, draw); got != want {
		t.Errorf("Pick(%v, %v, %d) = %d, want %d", l, not, draw, got, want)
	}
	askKept(t, "Pick", api.Views{Active: given, Passive: barred}, api.Views{Active: l, Passive: not})
}

// askSample asks for a sample of views.
func askSample(t *testing.T, v api.Views, draw int, want []int) {
	t.Helper()
	given := handed(v)
	if got := view.Sample(given, draw); !slices.Equal(got, want) {
		t.Errorf("Sample(%v, %d) = %v, want %v", v, draw, got, want)
	}
	askKept(t, "Sample", given, v)
}

// P25.2, example 1: a fifth one: one of the four is told, and known.
func TestExample(t *testing.T) {
	for draw, s := range []struct {
		active, passive string
		gone            int
	}{{"3 4 5 6", "2", 2}, {"2 4 5 6", "3", 3}, {"2 3 5 6", "4", 4}, {"2 3 4 6", "5", 5}} {
		for _, round := range []int{0, 4, 400} {
			askAdd(t, of(1, "2 3 4 5", ""), 6, draw+round, of(1, s.active, s.passive), s.gone)
		}
	}
}

// P25.1: views that may be, and some that may not.
func TestCheck(t *testing.T) {
	for _, v := range []api.Views{
		of(1, "", ""), of(12, "", ""), of(1, "2", ""), of(1, "", "2"), of(12, "1", "11"), of(12, "11", "1"), of(6, "1 12", "5 7"), of(6, "5 7", "1 12"),
		of(7, "1 2 3", "4"), of(7, "1 2 3 4", ""), of(7, "", "1 2 3 4 5 6 8"), of(7, "", "1 2 3 4 5 6 8 9"), of(7, "10 11 12", "1 2 3 4 5 6 8 9"), of(7, "1 2 3 4", "5 6 8 9 10 11 12"), of(1, "9 10 11 12", "2 3 4 5 6 7 8"),
	} {
		askCheck(t, v, true)
	}
	for _, v := range wrongViews() {
		askCheck(t, v, false)
	}
}

// P25.2: Pick of numbers in order, some of them barred.
func TestPick(t *testing.T) {
	for _, s := range []struct {
		l, not string
		draw   int
		want   int
	}{
		{"", "", 0, 0}, {"", "", 5, 0}, {"", "", -1, 0}, {"", "1 2", 3, 0}, {"", "", math.MaxInt, 0}, {"", "0", math.MinInt, 0},
		{"4", "", 0, 4}, {"4", "", 1, 4}, {"4", "", math.MaxInt, 4}, {"4", "4", 0, 0}, {"4", "4 4", 7, 0}, {"4", "5", 7, 4},
		{"2 3", "2", 7, 3}, {"2 3", "3", 7, 2}, {"2 3", "", 7, 3}, {"2 3", "", 6, 2}, {"2 3", "3 2", 6, 0}, {"2 3", "2 3 4", -6, 0},
		{"2 3 5", "", 0, 2}, {"2 3 5", "", 1, 3}, {"2 3 5", "", 2, 5}, {"2 3 5", "", 3, 2}, {"2 3 5", "", 5, 5}, {"2 3 5", "", -1, 2}, {"2 3 5", "", -2, 2}, {"2 3 5", "", math.MinInt, 2}, {"2 3 5", "", math.MaxInt, 3},
		{"2 3 5", "2", 0, 3}, {"2 3 5", "2", 1, 5}, {"2 3 5", "2", 2, 3}, {"2 3 5", "2", -1, 3}, {"2 3 5", "3", 0, 2}, {"2 3 5", "3", 1, 5}, {"2 3 5", "5 3", 1, 2}, {"2 3 5", "12 1", 2, 5}, {"2 3 5", "12 5 1", math.MaxInt, 3},
		// In order: as they stand there.
		{"5 1 9", "", 0, 5}, {"5 1 9", "", 1, 1}, {"5 1 9", "", 2, 9}, {"5 1 9", "1", 1, 9}, {"5 1 9", "9 5", 2, 1}, {"5 1 9", "", -9, 5},
		// One that stands there twice has two places, and none if it is barred.
		{"2 2 3", "", 0, 2}, {"2 2 3", "", 1, 2}, {"2 2 3", "", 2, 3}, {"2 2 3", "2", 1, 3}, {"2 2 3", "3", 1, 2}, {"2 3 2", "", 2, 2}, {"2 3 2", "3", 1, 2}, {"2 3 2", "2", 2, 3}, {"2 2", "2", 1, 0}, {"3 2 3 2 3", "2 2", 5, 3},
		// Numbers that are nobody's are numbers, too.
		{"0", "", 3, 0}, {"0 -1", "0", 0, -1}, {"-5 13 100", "", 1, 13}, {"-5 13 100", "13", 1, 100}, {"1 2", "0", 1, 2}, {"9223372036854775807 -9223372036854775808", "9223372036854775807", 5, math.MinInt},
		// The greatest one is 3 modulo 4, 2 modulo 5, 1 modulo 6, 0 modulo 7, and 7 modulo 8.
		{"2 3 4 5", "", math.MaxInt, 5}, {"2 3 4 5 6", "", math.MaxInt, 4}, {"2 3 4 5 6 7", "", math.MaxInt, 3}, {"2 3 4 5 6 7 8", "", math.MaxInt, 2}, {"2 3 4 5 6 7 8 9", "", math.MaxInt, 9}, {"2 3 4 5 6 7 8 9", "3", math.MaxInt, 2},
	} {
		askPick(t, numbers(s.l), numbers(s.not), s.draw, s.want)
	}
}

// P25.2: one is known: Passive has it, and, if it was full, one of it goes.
func TestKnow(t *testing.T) {
	v := of(6, "2 9", "3 8")
	for peer, passive := range map[int]string{1: "1 3 8", 4: "3 4 8", 5: "3 5 8", 7: "3 7 8", 10: "3 8 10", 11: "3 8 11", 12: "3 8 12"} {
		for _, draw := range []int{0, 1, 2, -1, math.MaxInt, math.MinInt} {
			askKnow(t, v, peer, draw, of(6, "2 9", passive))
		}
	}
	for _, peer := range []int{math.MinInt, -6, -1, 0, 2, 3, 6, 8, 9, 13, 14, 18, math.MaxInt} {
		askKnow(t, v, peer, 1, v)
	}
	askKnow(t, of(6, "", ""), 12, 5, of(6, "", "12"))
	askKnow(t, of(12, "1 2 3 4", ""), 5, 5, of(12, "1 2 3 4", "5"))
	askKnow(t, of(1, "2 3 4 5", "6 7 8 9 10 11"), 12, 1, of(1, "2 3 4 5", "6 7 8 9 10 11 12"))
	askKnow(t, of(1, "12", "2 3 4 5 6 7 8"), 9, 1, of(1, "12", "2 3 4 5 6 7 8 9"))
	full := of(5, "11", "1 2 3 4 6 7 8 9")
	for draw, passive := range map[int]string{
		0: "2 3 4 6 7 8 9 10", 1: "1 3 4 6 7 8 9 10", 2: "1 2 4 6 7 8 9 10", 3: "1 2 3 6 7 8 9 10", 4: "1 2 3 4 7 8 9 10", 5: "1 2 3 4 6 8 9 10", 6: "1 2 3 4 6 7 9 10", 7: "1 2 3 4 6 7 8 10",
		8: "2 3 4 6 7 8 9 10", 13: "1 2 3 4 6 8 9 10", -1: "2 3 4 6 7 8 9 10", -3: "2 3 4 6 7 8 9 10", math.MinInt: "2 3 4 6 7 8 9 10", math.MaxInt: "1 2 3 4 6 7 8 10",
	} {
		askKnow(t, full, 10, draw, of(5, "11", passive))
		for _, peer := range []int{0, 5, 11, 9, 1, 13, -1} {
			askKnow(t, full, peer, draw, full)
		}
	}
	askKnow(t, of(12, "", "2 3 4 5 6 7 8 9"), 1, 2, of(12, "", "1 2 3 5 6 7 8 9"))
}

// P25.2: one is in Active, wherever it was, and not in Passive; if Active was full, one of it is told, and known.
func TestAdd(t *testing.T) {
	v := of(6, "2 9", "3 8")
	for _, draw := range []int{0, 1, 2, -1, math.MaxInt, math.MinInt} {
		for peer, active := range map[int]string{1: "1 2 9", 4: "2 4 9", 5: "2 5 9", 7: "2 7 9", 10: "2 9 10", 11: "2 9 11", 12: "2 9 12"} {
			askAdd(t, v, peer, draw, of(6, active, "3 8"), 0)
		}
		askAdd(t, v, 3, draw, of(6, "2 3 9", "8"), 0)
		askAdd(t, v, 8, draw, of(6, "2 8 9", "3"), 0)
		for _, peer := range []int{math.MinInt, -6, -1, 0, 2, 6, 9, 13, 14, 18, math.MaxInt} {
			askAdd(t, v, peer, draw, v, 0)
		}
		askAdd(t, of(6, "", ""), 12, draw, of(6, "12", ""), 0)
		askAdd(t, of(6, "", "12"), 12, draw, of(6, "12", ""), 0)
		askAdd(t, of(6, "1 2 3", "4"), 12, draw, of(6, "1 2 3 12", "4"), 0)
		askAdd(t, of(6, "1 2 3", "4 5 7 8 9 10 11 12"), 12, draw, of(6, "1 2 3 12", "4 5 7 8 9 10 11"), 0)
	}
	full := of(6, "2 4 8 10", "1 9 12")
	for draw, s := range []struct {
		active, passive  string
		gone             int
		warmer, lessCold string
	}{
		{"4 5 8 10", "1 2 9 12", 2, "4 8 9 10", "1 2 12"}, {"2 5 8 10", "1 4 9 12", 4, "2 8 9 10", "1 4 12"}, {"2 4 5 10", "1 8 9 12", 8, "2 4 9 10", "1 8 12"}, {"2 4 5 8", "1 9 10 12", 10, "2 4 8 9", "1 10 12"},
	} {
		for _, round := range []int{0, 4, 40} {
			askAdd(t, full, 5, draw+round, of(6, s.active, s.passive), s.gone)
			askAdd(t, full, 9, draw+round, of(6, s.warmer, s.lessCold), s.gone)
			for _, peer := range []int{0, 2, 4, 6, 8, 10, 13, -1} {
				askAdd(t, full, peer, draw+round, full, 0)
			}
		}
	}
	askAdd(t, full, 5, -1, of(6, "4 5 8 10", "1 2 9 12"), 2)
	askAdd(t, full, 5, math.MinInt, of(6, "4 5 8 10", "1 2 9 12"), 2)
	askAdd(t, full, 5, math.MaxInt, of(6, "2 4 5 8", "1 9 10 12"), 10)
}

// P25.2: who is told is Cooled ahead of that: all the others are had or known then, and so they are behind it.
func TestAddWhereAllAreThere(t *testing.T) {
	all := of(6, "2 4 8 10", "1 3 5 7 9 11 12")
	askAdd(t, all, 7, 0, of(6, "4 7 8 10", "1 2 3 5 9 11 12"), 2)
	askAdd(t, all, 7, 1, of(6, "2 7 8 10", "1 3 4 5 9 11 12"), 4)
	askAdd(t, all, 12, 6, of(6, "2 4 10 12", "1 3 5 7 8 9 11"), 8)
	askAdd(t, all, 1, math.MaxInt, of(6, "1 2 4 8", "3 5 7 9 10 11 12"), 10)
	askAdd(t, all, 1, -5, of(6, "1 4 8 10", "2 3 5 7 9 11 12"), 2)
}

// P25.2: one that was in Active is known; of a full Passive one goes.
func TestCool(t *testing.T) {
	v := of(6, "2 9 12", "3 8")
	for _, draw := range []int{0, 1, 2, -1, math.MaxInt, math.MinInt} {
		askCool(t, v, 2, draw, of(6, "9 12", "2 3 8"))
		askCool(t, v, 9, draw, of(6, "2 12", "3 8 9"))
		askCool(t, v, 12, draw, of(6, "2 9", "3 8 12"))
		for _, peer := range []int{math.MinInt, -2, -1, 0, 1, 3, 4, 5, 6, 7, 8, 10, 11, 13, 14, math.MaxInt} {
			askCool(t, v, peer, draw, v)
		}
		askCool(t, of(1, "2", ""), 2, draw, of(1, "", "2"))
		askCool(t, of(1, "2 3 4 5", "6 7 8 9 10 11 12"), 3, draw, of(1, "2 4 5", "3 6 7 8 9 10 11 12"))
	}
	full := of(5, "10 11", "1 2 3 4 6 7 8 9")
	for draw, passive := range map[int]string{
		0: "2 3 4 6 7 8 9 10", 1: "1 3 4 6 7 8 9 10", 7: "1 2 3 4 6 7 8 10", 8: "2 3 4 6 7 8 9 10", 12: "1 2 3 4 7 8 9 10", -1: "2 3 4 6 7 8 9 10", math.MinInt: "2 3 4 6 7 8 9 10", math.MaxInt: "1 2 3 4 6 7 8 10",
	} {
		askCool(t, full, 10, draw, of(5, "11", passive))
	}
	askCool(t, of(1, "2 3 4", "5 6 7 8 9 10 11 12"), 3, 2, of(1, "2 4", "3 5 6 8 9 10 11 12"))
}

// P25.2: one that is forgotten is in neither.
func TestForget(t *testing.T) {
	v := of(6, "2 9 12", "3 8")
	for _, s := range []struct {
		peer            int
		active, passive string
	}{{2, "9 12", "3 8"}, {9, "2 12", "3 8"}, {12, "2 9", "3 8"}, {3, "2 9 12", "8"}, {8, "2 9 12", "3"}} {
		askForget(t, v, s.peer, of(6, s.active, s.passive))
	}
	for _, peer := range []int{math.MinInt, -2, -1, 0, 1, 4, 5, 6, 7, 10, 11, 13, 14, math.MaxInt} {
		askForget(t, v, peer, v)
		askForget(t, of(6, "", ""), peer, of(6, "", ""))
	}
	askForget(t, of(1, "2", ""), 2, of(1, "", ""))
	askForget(t, of(1, "", "2"), 2, of(1, "", ""))
	askForget(t, of(1, "2 3 4 5", "6 7 8 9 10 11 12"), 5, of(1, "2 3 4", "6 7 8 9 10 11 12"))
	askForget(t, of(1, "2 3 4", "5 6 7 8 9 10 11 12"), 5, of(1, "2 3 4", "6 7 8 9 10 11 12"))
}

// P25.3: at most three of both views, from the place on which the draw falls, and Self.
func TestSample(t *testing.T) {
	for _, draw := range []int{0, 1, 2, 3, 4, 5, -1, math.MaxInt, math.MinInt} {
		for _, s := range []struct {
			v    api.Views
			want string
		}{
			{of(1, "", ""), "1"}, {of(12, "", ""), "12"}, {of(5, "2", ""), "2 5"}, {of(5, "", "7"), "5 7"}, {of(5, "7", "2"), "2 5 7"}, {of(5, "2 7", ""), "2 5 7"}, {of(8, "", "2 7"), "2 7 8"},
			{of(5, "2 9", "7"), "2 5 7 9"}, {of(1, "9", "2 7"), "1 2 7 9"}, {of(12, "2 7 9", ""), "2 7 9 12"}, {of(8, "", "2 7 9"), "2 7 8 9"},
		} {
			askSample(t, s.v, draw, numbers(s.want))
		}
	}
	for _, v := range []api.Views{of(5, "2 7", "3 9"), of(5, "3 9", "2 7"), of(5, "2 3 7 9", ""), of(5, "", "2 3 7 9"), of(5, "9", "2 3 7")} {
		for draw, want := range map[int]string{0: "2 3 5 7", 1: "3 5 7 9", 2: "2 5 7 9", 3: "2 3 5 9", 4: "2 3 5 7", 7: "2 3 5 9", -1: "2 3 5 7", -7: "2 3 5 7", math.MinInt: "2 3 5 7", math.MaxInt: "2 3 5 9"} {
			askSample(t, v, draw, numbers(want))
		}
	}
	for draw, want := range []string{"2 3 4 12", "3 4 5 12", "4 5 6 12", "2 5 6 12", "2 3 6 12", "2 3 4 12"} {
		askSample(t, of(12, "2 4 6", "3 5"), draw, numbers(want))
	}
	all := of(1, "3 6 9 12", "2 4 5 7 8 10 11")
	for draw, want := range []string{"1 2 3 4", "1 3 4 5", "1 4 5 6", "1 5 6 7", "1 6 7 8", "1 7 8 9", "1 8 9 10", "1 9 10 11", "1 10 11 12", "1 2 11 12", "1 2 3 12"} {
		for _, round := range []int{0, 11, 1100} {
			askSample(t, all, draw+round, numbers(want))
		}
	}
	// The greatest one is 7 modulo 11.
	askSample(t, all, math.MaxInt, numbers("1 9 10 11"))
	askSample(t, all, math.MinInt, numbers("1 2 3 4"))
}
