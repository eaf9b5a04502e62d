package marks_test

import (
	"math"
	"slices"
	"testing"

	"plexus/api"
	"plexus/marks"
)

// mk answers a Mark.
func mk(peer int, seq int, index int) api.Mark {
	return api.Mark{Dot: api.Dot{Peer: peer, Seq: seq}, Index: index}
}

// small are all marks of three peers, up to two transactions and two ops of each, rising.
func small() []api.Mark {
	var l []api.Mark
	for k := range 12 {
		l = append(l, mk(1+k>>2, 1+k>>1&1, 1+k&1))
	}
	return l
}

// some answers the marks of small whose places are bits of a number.
func some(bits int) []api.Mark {
	var l []api.Mark
	for k, m := range small() {
		if bits>>k&1 == 1 {
			l = append(l, m)
		}
	}
	return l
}

// amountMark answers the mark of an amount.
func amountMark(a api.Amount) api.Mark {
	return a.Mark
}

// Find of each mark in each list of some of them: how many are ahead of it, and whether it is there.
func TestFind(t *testing.T) {
	for bits := range 1 << 12 {
		var l []api.Amount
		for _, m := range some(bits) {
			l = append(l, api.Amount{Mark: m, N: 3})
		}
		ahead := 0
		for k, m := range small() {
			at, there := marks.Find(l, m, amountMark)
			if at != ahead || there != (bits>>k&1 == 1) {
				t.Fatalf("Find(%+v, %+v) = %d, %v", l, m, at, there)
			}
			ahead += bits >> k & 1
		}
	}
}

// Rise of all lists of up to three marks; and an Index goes from 1 on, at each place.
func TestRise(t *testing.T) {
	ask := func(want bool, l ...api.Mark) {
		if got := marks.Rise(l); got != want {
			t.Errorf("Rise(%+v) = %v", l, got)
		}
	}
	ask(true)
	for a, x := range small() {
		ask(true, x)
		for b, y := range small() {
			ask(a < b, x, y)
			for c, z := range small() {
				ask(a < b && b < c, x, y, z)
			}
		}
	}
	for _, index := range []int{math.MinInt, -1, 0, 1, 2, math.MaxInt} {
		ask(index >= 1, mk(1, 1, index))
		ask(index >= 1, mk(1, 1, index), mk(1, 2, 1))
		ask(index >= 1, mk(1, 0, 1), mk(1, 1, index))
	}
}

// With puts each mark where it belongs, once, and leaves the list that is handed in, and the room behind it, as it was.
func TestWith(t *testing.T) {
	for bits := range 1 << 12 {
		l := some(bits)
		given := slices.Grow(slices.Clone(l), 3)
		for k, m := range small() {
			got := marks.With(given, m)
			if !slices.Equal(got, some(bits|1<<k)) {
				t.Fatalf("With(%+v, %+v) = %+v", l, m, got)
			}
			clear(got[:cap(got)])
			if !slices.Equal(given, l) || slices.ContainsFunc(given[len(l):len(l)+3], func(m api.Mark) bool { return m != api.Mark{} }) {
				t.Fatalf("%+v is %+v now", l, given[:len(l)+3])
			}
		}
	}
}
