package vec

import (
	"math"
	"slices"
	"testing"

	"plexus/api"
)

// all answers a vector that has one number of each peer, and 0 of 0.
func all(n int) api.Vec {
	var v api.Vec
	for p := 1; p <= api.MaxPeers; p++ {
		v[p] = n
	}
	return v
}

// one answers a vector of 0s but at one place.
func one(p int, n int) api.Vec {
	var v api.Vec
	v[p] = n
	return v
}

// mixed answers a vector with another number of each peer.
func mixed() api.Vec {
	return api.Vec{0, 7, 0, 1, api.MaxSeq, 4096, 2, 4095, 4097, 0, 1 << 19, 3, 5}
}

// sound are vectors that Check.
func sound() []api.Vec {
	return []api.Vec{
		{}, one(1, 1), one(1, api.MaxSeq), one(api.MaxPeers, 1), one(api.MaxPeers, api.MaxSeq),
		one(6, 4096), {0, 0, 2}, {0, 1, 2}, {0, 2, 1}, all(1), all(api.MaxSeq), all(api.MaxSeq - 1), mixed(),
	}
}

// wrong are vectors that do not: a number at 0, below 0, above MaxSeq.
func wrong() []api.Vec {
	l := []api.Vec{
		one(0, 1), one(0, -1), one(0, api.MaxSeq), one(0, math.MaxInt), one(0, math.MinInt),
		all(-1), all(api.MaxSeq + 1), all(math.MaxInt), all(math.MinInt),
	}
	for p := 1; p <= api.MaxPeers; p++ {
		for _, n := range []int{-1, api.MaxSeq + 1, math.MaxInt, math.MinInt} {
			v := mixed()
			v[p] = n
			l = append(l, one(p, n), v)
		}
	}
	v := mixed()
	v[0] = 1
	return append(l, v)
}

// both are all of them.
func both() []api.Vec {
	return append(sound(), wrong()...)
}

// notPeers are numbers that no peer has.
func notPeers() []int {
	return []int{0, -1, api.MaxPeers + 1, api.MaxPeers + 2, -api.MaxPeers, math.MaxInt, math.MinInt}
}

// seqs are numbers around those of a vector, and the edges.
func seqs(n int) []int {
	return []int{
		math.MinInt, -1, 0, 1, 2, api.MaxSeq - 1, api.MaxSeq, api.MaxSeq + 1, api.MaxSeq + 2, math.MaxInt - 1, math.MaxInt,
		n - 2, n - 1, n, n + 1, n + 2,
	}
}

// P3.1: Check of vectors that may be, and of those that may not.
func TestCheck(t *testing.T) {
	for _, v := range sound() {
		if !Check(v) {
			t.Error("refused:", v)
		}
	}
	for _, v := range wrong() {
		if Check(v) {
			t.Error("taken:", v)
		}
	}
}

// P3.1: each place is looked at, up to MaxSeq and not beyond, that of 0 up to 0.
func TestCheckAtEachPlace(t *testing.T) {
	for p := range len(api.Vec{}) {
		for _, n := range seqs(0) {
			want := n == 0 || p != 0 && n > 0 && n <= api.MaxSeq
			if Check(one(p, n)) != want {
				t.Errorf("%d at %d: %v", n, p, !want)
			}
		}
	}
}

// P3.1: Has, as it is worded.
func TestHas(t *testing.T) {
	v := api.Vec{0, 3, 0, 1}
	v[api.MaxPeers] = api.MaxSeq
	for _, c := range []struct {
		peer, seq int
		want      bool
	}{
		{1, 1, true}, {1, 2, true}, {1, 3, true}, {1, 4, false}, {1, 0, false}, {1, -1, false},
		{2, 1, false}, {2, 0, false}, {3, 1, true}, {3, 2, false},
		{api.MaxPeers, 1, true}, {api.MaxPeers, api.MaxSeq, true}, {api.MaxPeers, api.MaxSeq + 1, false}, {api.MaxPeers, 0, false},
		{1, math.MaxInt, false}, {1, math.MinInt, false},
	} {
		if Has(v, api.Dot{Peer: c.peer, Seq: c.seq}) != c.want {
			t.Errorf("%d %d: %v", c.peer, c.seq, !c.want)
		}
	}
}

// P3.1: Has and Next of vectors of all kinds, each peer, Seqs all around: the chapter's words, which ask for no Check.
func TestHasAndNextEverywhere(t *testing.T) {
	for _, v := range both() {
		for p := 1; p <= api.MaxPeers; p++ {
			for _, s := range seqs(v[p]) {
				d := api.Dot{Peer: p, Seq: s}
				if got := Has(v, d); got != (s > 0 && !(s > v[p])) {
					t.Errorf("%v has %v: %v", v, d, got)
				}
				if got := Next(v, d); got != (v[p] != math.MaxInt && s == v[p]+1) {
					t.Errorf("%v, next %v: %v", v, d, got)
				}
			}
		}
	}
}

// P3.1, R1: dots of no peer are neither there nor next, and are not added; nothing panics.
func TestDotsOfNoPeer(t *testing.T) {
	for _, v := range both() {
		for _, p := range notPeers() {
			for _, s := range seqs(v[0]) {
				d := api.Dot{Peer: p, Seq: s}
				if Has(v, d) || Next(v, d) {
					t.Errorf("%v: %v is taken", v, d)
				}
				if got, e := Add(v, d); got != v || e != api.ErrCause {
					t.Errorf("%v and %v: %v, %d", v, d, got, e)
				}
			}
		}
	}
}

// P3.1: the chapter's example.
func TestExample(t *testing.T) {
	for p := 1; p <= api.MaxPeers; p++ {
		d := api.Dot{Peer: p, Seq: 1}
		if !Next(api.Vec{}, d) || Has(api.Vec{}, d) {
			t.Error("of 0s:", d)
		}
	}
	d := api.Dot{Peer: 1, Seq: 1}
	v, e := Add(api.Vec{}, d)
	if v != (api.Vec{0, 1}) || e != api.OK || !Has(v, d) {
		t.Error(v, e)
	}
}

// P3.1: no number comes round: nothing is next behind the greatest int, and nothing ahead of the least.
func TestNextTakesNothingRound(t *testing.T) {
	if Next(one(1, math.MaxInt), api.Dot{Peer: 1, Seq: math.MinInt}) {
		t.Error("the least behind the greatest")
	}
	if Next(one(1, math.MinInt), api.Dot{Peer: 1, Seq: math.MaxInt}) {
		t.Error("the greatest ahead of the least")
	}
	v := one(1, math.MaxInt)
	if got, e := Add(v, api.Dot{Peer: 1, Seq: math.MinInt}); got != v || e != api.ErrCause {
		t.Error(got, e)
	}
}

// P3.1: Add of a next dot changes that peer's number alone.
func TestAdd(t *testing.T) {
	for _, v := range sound() {
		for p := 1; p <= api.MaxPeers; p++ {
			if v[p] == api.MaxSeq {
				continue
			}
			was, d := v, api.Dot{Peer: p, Seq: v[p] + 1}
			got, e := Add(v, d)
			want := v
			want[p]++
			if got != want || e != api.OK {
				t.Errorf("%v and %v: %v, %d", v, d, got, e)
			}
			if !Has(got, d) || Has(v, d) || !Check(got) || Total(got) != Total(v)+1 || v != was {
				t.Errorf("%v and %v: %v is not one more", v, d, got)
			}
		}
	}
}

// P3.1, R2: up to MaxSeq there is room; one above it there is none, whatever the others are, and the vector is zero beside that.
func TestAddWhereFull(t *testing.T) {
	for p := 1; p <= api.MaxPeers; p++ {
		last := api.Dot{Peer: p, Seq: api.MaxSeq}
		if got, e := Add(one(p, api.MaxSeq-1), last); got != one(p, api.MaxSeq) || e != api.OK {
			t.Errorf("%v: %v, %d", last, got, e)
		}
		for _, n := range []int{api.MaxSeq, api.MaxSeq + 1, math.MaxInt - 1} {
			v := mixed()
			v[p] = n
			d := api.Dot{Peer: p, Seq: n + 1}
			if got, e := Add(v, d); got != (api.Vec{}) || e != api.ErrFull {
				t.Errorf("%v: %v, %d", d, got, e)
			}
		}
	}
}

// P3.1: of a dot that is not the next one the vector is as it was, also where it is full.
func TestAddOfAnotherDot(t *testing.T) {
	for _, v := range both() {
		for p := 1; p <= api.MaxPeers; p++ {
			for _, s := range seqs(v[p]) {
				d := api.Dot{Peer: p, Seq: s}
				if Next(v, d) {
					continue
				}
				if got, e := Add(v, d); got != v || e != api.ErrCause {
					t.Errorf("%v and %v: %v, %d", v, d, got, e)
				}
			}
		}
	}
}

// P3.2: Join, Meet and Leq of two that are written out.
func TestTwo(t *testing.T) {
	a := api.Vec{0, 3, 0, 5, 1, 0, 0, 0, 0, 0, 0, 9, 2}
	b := api.Vec{0, 1, 4, 5, 0, 0, 0, 0, 0, 0, 0, 8, 3}
	join := api.Vec{0, 3, 4, 5, 1, 0, 0, 0, 0, 0, 0, 9, 3}
	meet := api.Vec{0, 1, 0, 5, 0, 0, 0, 0, 0, 0, 0, 8, 2}
	if Join(a, b) != join || Join(b, a) != join {
		t.Error("join", Join(a, b), Join(b, a))
	}
	if Meet(a, b) != meet || Meet(b, a) != meet {
		t.Error("meet", Meet(a, b), Meet(b, a))
	}
	if Leq(a, b) || Leq(b, a) || !Leq(meet, a) || !Leq(b, join) || !Leq(a, a) {
		t.Error("leq")
	}
}

// P3.2: Join, Meet and Leq place by place (that of 0 too), of all kinds of vectors; these are left as they were.
func TestEachPlace(t *testing.T) {
	for _, a := range both() {
		for _, b := range both() {
			join, meet, leq := Join(a, b), Meet(a, b), true
			for p := range a {
				greater, lesser := a[p], b[p]
				if a[p] < b[p] {
					greater, lesser = b[p], a[p]
				}
				if join[p] != greater || meet[p] != lesser {
					t.Errorf("%v, %v at %d: %d, %d", a, b, p, join[p], meet[p])
				}
				leq = leq && !(a[p] > b[p])
			}
			if Leq(a, b) != leq {
				t.Errorf("%v below %v: %v", a, b, !leq)
			}
		}
	}
}

// P3.2: one place that is above is enough to be not below.
func TestLeqAtEachPlace(t *testing.T) {
	for p := range len(api.Vec{}) {
		a, b := mixed(), mixed()
		a[p]++
		if Leq(a, b) || !Leq(b, a) {
			t.Error("one more at", p)
		}
	}
}

// lacking are the dots that b Has and a has not, worked out by asking for each.
func lacking(a api.Vec, b api.Vec, most int) []api.Dot {
	var l []api.Dot
	for p := 1; p <= api.MaxPeers; p++ {
		for s := 1; s <= b[p] && len(l) < most; s++ {
			if d := (api.Dot{Peer: p, Seq: s}); Has(b, d) && !Has(a, d) {
				l = append(l, d)
			}
		}
	}
	return l
}

// P3.2: Missing of two that are written out, either way round.
func TestMissing(t *testing.T) {
	a, b := api.Vec{0, 3, 0, 1}, api.Vec{0, 1, 2, 3}
	a[api.MaxPeers], b[api.MaxPeers] = 0, 1
	want := []api.Dot{{Peer: 2, Seq: 1}, {Peer: 2, Seq: 2}, {Peer: 3, Seq: 2}, {Peer: 3, Seq: 3}, {Peer: api.MaxPeers, Seq: 1}}
	if got := Missing(a, b); !slices.Equal(got, want) {
		t.Error(got)
	}
	if got := Missing(b, a); !slices.Equal(got, []api.Dot{{Peer: 1, Seq: 2}, {Peer: 1, Seq: 3}}) {
		t.Error(got)
	}
}

// P3.2: Missing of all that Check, against what each dot's Has tells.
func TestMissingIsWhatIsNotHad(t *testing.T) {
	for _, a := range sound() {
		for _, b := range sound() {
			if got, want := Missing(a, b), lacking(a, b, 4096); !slices.Equal(got, want) {
				t.Errorf("%v, %v: %d dots, not %d", a, b, len(got), len(want))
			}
		}
	}
}

// P3.2: 4096 are told, and no more: of one peer, and where one that is further on is the last.
func TestMissingAtMost(t *testing.T) {
	for _, c := range []struct {
		a, b api.Vec
		want int
		last api.Dot
	}{
		{api.Vec{}, one(1, 4095), 4095, api.Dot{Peer: 1, Seq: 4095}},
		{api.Vec{}, one(1, 4096), 4096, api.Dot{Peer: 1, Seq: 4096}},
		{api.Vec{}, one(1, 4097), 4096, api.Dot{Peer: 1, Seq: 4096}},
		{one(1, 1), one(1, 4097), 4096, api.Dot{Peer: 1, Seq: 4097}},
		{api.Vec{}, api.Vec{0, 4095, 0, 1}, 4096, api.Dot{Peer: 3, Seq: 1}},
		{api.Vec{}, api.Vec{0, 4095, 0, 2}, 4096, api.Dot{Peer: 3, Seq: 1}},
		{api.Vec{}, api.Vec{0, 4096, 0, 1}, 4096, api.Dot{Peer: 1, Seq: 4096}},
		{api.Vec{}, api.Vec{0, 4094, 0, 1}, 4095, api.Dot{Peer: 3, Seq: 1}},
		{api.Vec{}, all(api.MaxSeq), 4096, api.Dot{Peer: 1, Seq: 4096}},
		{one(1, api.MaxSeq), all(api.MaxSeq), 4096, api.Dot{Peer: 2, Seq: 4096}},
		{one(api.MaxPeers, api.MaxSeq-4096), one(api.MaxPeers, api.MaxSeq), 4096, api.Dot{Peer: api.MaxPeers, Seq: api.MaxSeq}},
	} {
		got := Missing(c.a, c.b)
		if len(got) != c.want || got[len(got)-1] != c.last {
			t.Errorf("%v, %v: %d dots, the last %v", c.a, c.b, len(got), got[len(got)-1])
		}
		if !slices.Equal(got, lacking(c.a, c.b, 4096)) {
			t.Errorf("%v, %v: others", c.a, c.b)
		}
	}
}

// P3.2: nothing is missing where one of both does not Check.
func TestMissingOfWrongOnes(t *testing.T) {
	for _, v := range wrong() {
		for _, w := range both() {
			if got := Missing(v, w); len(got) != 0 {
				t.Errorf("%v, %v: %d dots", v, w, len(got))
			}
			if got := Missing(w, v); len(got) != 0 {
				t.Errorf("%v, %v: %d dots", w, v, len(got))
			}
		}
	}
}

// R3: two answers share no memory, not even behind their ends.
func TestMissingIsNew(t *testing.T) {
	first, second := Missing(api.Vec{}, all(2)), Missing(api.Vec{}, all(2))
	clear(first[:cap(first)])
	if !slices.Equal(second, lacking(api.Vec{}, all(2), 4096)) {
		t.Error(second)
	}
}

// P3.2: Total, up to the greatest there may be, and 0 of one that does not Check.
func TestTotal(t *testing.T) {
	for _, c := range []struct {
		v    api.Vec
		want int
	}{
		{api.Vec{}, 0}, {one(1, 1), 1}, {one(api.MaxPeers, api.MaxSeq), api.MaxSeq}, {api.Vec{0, 1, 2}, 3},
		{all(1), 12}, {all(api.MaxSeq), 12 << 20}, {api.Vec{0, 1, 2, 3, 4, 5, 6, 7, 8, 9, 10, 11, 12}, 78},
	} {
		if got := Total(c.v); got != c.want {
			t.Errorf("%v: %d", c.v, got)
		}
	}
	for _, v := range wrong() {
		if got := Total(v); got != 0 {
			t.Errorf("%v: %d", v, got)
		}
	}
}

// P3.2: as many dots are had as Total tells, and as many are missing as Totals are apart.
func TestTotalCountsDots(t *testing.T) {
	v := api.Vec{0, 3, 0, 1, 0, 0, 20, 0, 0, 0, 0, 0, 7}
	if len(Missing(api.Vec{}, v)) != Total(v) {
		t.Error("of 0s")
	}
	w := Join(v, all(2))
	if len(Missing(v, w)) != Total(w)-Total(v) {
		t.Error("of", v, w)
	}
}

// small are all vectors with 0 to 2 at three places, the first and the last peer's among them.
func small() []api.Vec {
	var l []api.Vec
	for x := range 3 {
		for y := range 3 {
			for z := range 3 {
				v := one(1, x)
				v[5], v[api.MaxPeers] = y, z
				l = append(l, v)
			}
		}
	}
	return l
}

// P3.3: both are below their Join, which is below whatever they are below; the Meet is below both, and whatever is so is below it.
func leastAndGreatest(t *testing.T, l []api.Vec) {
	t.Helper()
	for _, a := range l {
		for _, b := range l {
			join, meet := Join(a, b), Meet(a, b)
			if !Leq(a, join) || !Leq(b, join) || !Leq(meet, a) || !Leq(meet, b) {
				t.Fatalf("%v, %v: %v, %v", a, b, join, meet)
			}
			for _, c := range l {
				if Leq(a, c) && Leq(b, c) && !Leq(join, c) {
					t.Fatalf("%v, %v: %v is above %v", a, b, join, c)
				}
				if Leq(c, a) && Leq(c, b) && !Leq(c, meet) {
					t.Fatalf("%v, %v: %v is below %v", a, b, meet, c)
				}
			}
		}
	}
}

// P3.3: of all small ones, and of vectors of all kinds.
func TestLeastAndGreatest(t *testing.T) {
	leastAndGreatest(t, small())
	leastAndGreatest(t, both())
}

// P3.3: Leq is an order: of itself; both ways of the same alone; from one to the next.
func TestLeqIsAnOrder(t *testing.T) {
	l := small()
	for _, a := range l {
		for _, b := range l {
			if (Leq(a, b) && Leq(b, a)) != (a == b) {
				t.Fatal(a, b)
			}
			for _, c := range l {
				if Leq(a, b) && Leq(b, c) && !Leq(a, c) {
					t.Fatal(a, b, c)
				}
			}
		}
	}
}
