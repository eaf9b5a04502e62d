package events

import (
	"math"
	"slices"
	"strconv"
	"testing"

	"plexus/api"
)

const most = api.MaxCount

// zero is the leaf 0.
var zero = api.Tree{}

// lf answers a leaf.
func lf(n int) api.Tree {
	return api.Tree{N: n}
}

// node answers a tree with two Kids, whatever they are.
func node(n int, first api.Tree, second api.Tree) api.Tree {
	return api.Tree{N: n, Kids: []api.Tree{first, second}}
}

// same tells whether two trees are the same; nil and empty lists are.
func same(a api.Tree, b api.Tree) bool {
	return a.N == b.N && slices.EqualFunc(a.Kids, b.Kids, same)
}

// clone answers a tree that shares nothing with t.
func clone(t api.Tree) api.Tree {
	c := lf(t.N)
	for _, k := range t.Kids {
		c.Kids = append(c.Kids, clone(k))
	}
	return c
}

// spoil overwrites all that t's lists hold.
func spoil(t api.Tree) {
	for i := range t.Kids {
		spoil(t.Kids[i])
		t.Kids[i] = lf(77)
	}
}

// text writes a tree: its N, and its Kids in brackets.
func text(t api.Tree) string {
	s := strconv.Itoa(t.N)
	for i, k := range t.Kids {
		s += []string{"(", " "}[min(i, 1)] + text(k)
	}
	if len(t.Kids) > 0 {
		s += ")"
	}
	return s
}

// chain answers a tree that goes down by the way ('0' first, '1' second Kid) to end, with n at each of its knots and side beside it all along.
func chain(way string, n int, side api.Tree, end api.Tree) api.Tree {
	t := end
	for i := len(way) - 1; i >= 0; i-- {
		if way[i] == '0' {
			t = node(n, t, clone(side))
		} else {
			t = node(n, clone(side), t)
		}
	}
	return t
}

// ways are some ways down of so many bits: all first, all second, both in turn, and one with a run of each.
func ways(n int) []string {
	l := []string{"", "", "", ""}
	for i := range n {
		l[0] += "0"
		l[1] += "1"
		l[2] += strconv.Itoa(i % 2)
		l[3] += strconv.Itoa(i / 4 % 2)
	}
	return l
}

// full answers a tree whose leaves all stand n deep: first and second in turn.
func full(n int, first api.Tree, second api.Tree) api.Tree {
	if n == 1 {
		return node(0, first, second)
	}
	return node(0, full(n-1, first, second), full(n-1, first, second))
}

// roughs are all trees of at most that depth whose N are below so many.
func roughs(depth int, below int) []api.Tree {
	var l []api.Tree
	for n := range below {
		l = append(l, lf(n))
		if depth == 0 {
			continue
		}
		less := roughs(depth-1, below)
		for _, a := range less {
			for _, b := range less {
				l = append(l, node(n, a, b))
			}
		}
	}
	return l
}

// counts answers the counts of so many parts of t, side by side; none of them may be parted further.
func counts(t api.Tree, parts int) []int {
	l := make([]int, parts)
	fill(l, t, 0)
	return l
}

func fill(l []int, t api.Tree, sum int) {
	sum += t.N
	if len(t.Kids) == 0 {
		for i := range l {
			l[i] = sum
		}
		return
	}
	fill(l[:len(l)/2], t.Kids[0], sum)
	fill(l[len(l)/2:], t.Kids[1], sum)
}

// ofCounts answers the one tree with these counts that may be: each N the least count below it, less what stands above.
func ofCounts(l []int, above int) api.Tree {
	least := slices.Min(l)
	if slices.Max(l) == least {
		return lf(least - above)
	}
	half := len(l) / 2
	return node(least-above, ofCounts(l[:half], least), ofCounts(l[half:], least))
}

// quarters are the counts of four parts, all choices of those below so many.
func quarters(below int) [][]int {
	var l [][]int
	for i := range below * below * below * below {
		l = append(l, []int{i % below, i / below % below, i / below / below % below, i / below / below / below})
	}
	return l
}

// sound are the trees of quarters.
func sound(below int) []api.Tree {
	var l []api.Tree
	for _, q := range quarters(below) {
		l = append(l, ofCounts(q, 0))
	}
	return l
}

// allLeq tells whether each of a is at most that of b.
func allLeq(a []int, b []int) bool {
	for i := range a {
		if a[i] > b[i] {
			return false
		}
	}
	return true
}

// greater answers the greater ones of both.
func greater(a []int, b []int) []int {
	l := make([]int, len(a))
	for i := range a {
		l[i] = max(a[i], b[i])
	}
	return l
}

// edge are trees that Check whose counts, or depths, are at their ends.
func edge() []api.Tree {
	l := []api.Tree{
		zero, lf(1), lf(most - 1), lf(most),
		node(most-1, lf(1), zero), node(most-1, zero, lf(1)),
		node(0, lf(most), zero), node(0, zero, lf(most)),
		node(1, zero, node(most-2, lf(1), zero)),
		full(15, lf(1), zero), full(16, lf(most), zero), full(16, zero, lf(1)),
	}
	for _, n := range []int{15, 16} {
		for _, way := range ways(n) {
			l = append(l,
				chain(way, 0, zero, lf(1)),
				chain(way, 0, zero, lf(most)),
				chain(way, 1, zero, lf(most-n)),
				chain(way, 0, lf(most), zero),
				chain(way, 0, lf(3), zero))
		}
	}
	return l
}

// broken are trees that are not rough, by what they have at their top.
func broken() []api.Tree {
	l := []api.Tree{
		{Kids: []api.Tree{zero}},
		{Kids: []api.Tree{lf(1)}},
		{N: 1, Kids: []api.Tree{zero}},
		{Kids: []api.Tree{zero, lf(1), zero}},
		{N: 2, Kids: []api.Tree{lf(1), zero, lf(2)}},
		{Kids: []api.Tree{zero, zero, zero}},
		{Kids: []api.Tree{zero, lf(1), zero, lf(1)}},
		node(1, zero, lf(most)), node(1, lf(most), zero), node(1, lf(most), lf(most)),
		node(most, zero, lf(1)), node(most, lf(1), zero), node(most, lf(1), lf(1)),
		node(most, lf(-1), zero), node(1, lf(-1), zero), node(2, lf(-1), lf(-1)),
		node(0, zero, node(1, zero, lf(most))),
		node(most/2, zero, node(most/2, zero, lf(1))),
	}
	for _, n := range []int{-1, -2, -most, math.MinInt, most + 1, most + 2, 2 * most, math.MaxInt} {
		l = append(l, lf(n), node(0, zero, lf(n)), node(0, lf(n), zero), node(0, lf(n), lf(n)), node(n, zero, lf(1)), node(n, lf(1), zero), node(n, zero, zero))
	}
	return l
}

// endless are trees that hold themselves.
func endless() []api.Tree {
	both, left, right, lone := make([]api.Tree, 2), make([]api.Tree, 2), make([]api.Tree, 2), make([]api.Tree, 1)
	both[0].Kids, both[1].Kids = both, both
	left[0].Kids, left[1].N = left, 1
	right[0].N, right[1].Kids = 1, right
	lone[0].Kids = lone
	return []api.Tree{{Kids: both}, {Kids: left}, {N: 3, Kids: right}, {Kids: lone}}
}

// notRough are trees that are not rough: by what they have at their top or further down, by a sum, too deep, without end.
func notRough() []api.Tree {
	l := append(broken(), endless()...)
	for _, w := range broken() {
		for _, n := range []int{1, 2, 7, 13} {
			for _, way := range ways(n) {
				l = append(l, chain(way, 0, zero, w), chain(way, 1, zero, w), chain(way, 0, node(1, zero, lf(1)), w))
			}
		}
	}
	for n := 1; n <= 16; n++ {
		for _, way := range ways(n) {
			l = append(l, chain(way, 1, zero, lf(most-n+1)), chain(way, 1, lf(most), zero), chain(way, 0, zero, lf(most+1)))
		}
	}
	for _, n := range []int{17, 18, 40, 1000} {
		for _, way := range ways(n) {
			l = append(l, chain(way, 0, zero, lf(1)), chain(way, 0, lf(1), zero), chain(way, 0, zero, zero), chain(way, 1, zero, lf(1)))
		}
	}
	return append(l, full(17, lf(1), zero), full(17, zero, zero))
}

// notShort are rough trees that do not Check: Kids none of which has N 0, and two leaves of one N as Kids, at the top or further down.
func notShort() []api.Tree {
	var l []api.Tree
	for _, w := range []api.Tree{
		node(0, zero, zero), node(3, zero, zero), node(0, lf(2), lf(2)),
		node(0, lf(1), lf(2)), node(0, lf(2), lf(1)), node(4, lf(1), node(1, zero, lf(1))),
		node(0, node(1, zero, lf(2)), node(2, lf(1), zero)), node(0, node(1, zero, lf(1)), node(1, zero, lf(1))),
	} {
		l = append(l, w, node(0, w, zero), node(1, zero, w), node(0, node(0, zero, lf(1)), w))
		for _, n := range []int{1, 2, 7, 14} {
			for _, way := range ways(n) {
				l = append(l, chain(way, 0, zero, w), chain(way, 1, zero, w), chain(way, 0, node(0, lf(1), zero), w)) // the deepest: 16
			}
		}
	}
	return append(l, node(0, lf(most), lf(most)), node(0, lf(most), lf(most-1)), full(16, zero, zero), full(16, lf(2), lf(1)))
}

// someAt are places at and beside each quarter's ends, and within.
func someAt() []int {
	var l []int
	for i := range 4 {
		l = append(l, i*16384, i*16384+1, i*16384+5000, i*16384+16382, i*16384+16383)
	}
	return l
}

// P5.1: Check of all small trees takes just those that are the ones of their counts.
func TestCheckOfSmallOnes(t *testing.T) {
	taken := 0
	for _, r := range roughs(2, 3) {
		want := same(r, ofCounts(counts(r, 4), 0))
		if Check(r) != want {
			t.Error(text(r), !want)
		}
		if want {
			taken++
		}
	}
	if taken != 375 {
		t.Error("taken:", taken)
	}
	for _, s := range sound(4) {
		if !Check(s) {
			t.Error(text(s))
		}
	}
}

// P5.1: some that are written out: a fault of one Kid is one of all.
func TestCheck(t *testing.T) {
	up, down := node(0, zero, lf(2)), node(0, lf(2), zero)
	for _, c := range []struct {
		t    api.Tree
		want bool
	}{
		{node(1, zero, lf(2)), true},
		{node(1, lf(2), zero), true},
		{node(1, lf(1), lf(2)), false},
		{node(1, lf(2), lf(2)), false},
		{node(1, zero, zero), false},
		{node(0, up, down), true},
		{node(0, up, up), true},
		{node(0, up, zero), true},
		{node(0, zero, up), true},
		{node(0, node(1, zero, lf(2)), zero), true},
		{node(0, node(1, zero, lf(2)), lf(1)), false},
		{node(0, node(1, zero, lf(2)), node(1, zero, lf(2))), false},
		{node(0, up, node(0, zero, zero)), false},
		{node(0, node(0, lf(1), lf(2)), down), false},
		{node(0, zero, node(0, up, node(5, lf(1), lf(1)))), false},
	} {
		if Check(c.t) != c.want {
			t.Error(text(c.t), !c.want)
		}
	}
}

// P5.1: N of leaves from 0 to MaxCount; an empty list of Kids, with room behind it or not, is none.
func TestLeaves(t *testing.T) {
	for _, n := range []int{math.MinInt, -most, -1, 0, 1, 2, most - 1, most, most + 1, 2 * most, math.MaxInt} {
		want := n >= 0 && n <= most
		for _, kids := range [][]api.Tree{nil, {}, make([]api.Tree, 0, 2), []api.Tree{zero, zero, zero}[:0]} {
			l := api.Tree{N: n, Kids: kids}
			if Check(l) != want {
				t.Error(n, !want)
			}
			got, e := Norm(l)
			if want && (!same(got, lf(n)) || e != api.OK) || !want && (!same(got, zero) || e != api.ErrForm) {
				t.Error("norm of", n, text(got), e)
			}
		}
	}
	if !Check(api.Tree{Kids: []api.Tree{lf(1), zero, lf(1)}[:2]}) {
		t.Error("what is behind a list's end is nobody's")
	}
}

// P5.1: sums of MaxCount on a way down, and 16 deep, are not too much; Norm leaves them as they are.
func TestCheckOfEdges(t *testing.T) {
	for _, d := range edge() {
		if !Check(d) {
			t.Error("refused:", text(d))
		}
		if got, e := Norm(d); !same(got, d) || e != api.OK {
			t.Error("norm of", text(d), text(got), e)
		}
	}
}

// P5.1: what is wrong, at the top or deep down, is refused.
func TestCheckRefuses(t *testing.T) {
	for i, w := range append(notRough(), notShort()...) {
		if Check(w) {
			t.Fatal("taken:", i)
		}
	}
}

// P5.1: Norm of all small trees is the one of their counts.
func TestNormOfSmallOnes(t *testing.T) {
	for _, r := range roughs(2, 3) {
		was := clone(r)
		got, e := Norm(r)
		if !same(got, ofCounts(counts(r, 4), 0)) || e != api.OK || !same(r, was) {
			t.Errorf("%s: %s, %d", text(was), text(got), e)
		}
	}
}

// P5.1: Norm of some that are written out.
func TestNorm(t *testing.T) {
	for _, c := range []struct{ t, want api.Tree }{
		{zero, zero},
		{lf(5), lf(5)},
		{node(0, lf(2), lf(2)), lf(2)},
		{node(3, lf(2), lf(2)), lf(5)},
		{node(3, zero, zero), lf(3)},
		{node(1, lf(2), lf(3)), node(3, zero, lf(1))},
		{node(1, lf(3), lf(2)), node(3, lf(1), zero)},
		{node(1, zero, lf(2)), node(1, zero, lf(2))},
		{node(0, node(1, lf(1), lf(1)), lf(2)), lf(2)},
		{node(0, node(1, lf(1), lf(2)), lf(2)), node(2, node(0, zero, lf(1)), zero)},
		{node(1, node(0, lf(2), lf(3)), node(1, lf(4), lf(1))), node(3, node(0, zero, lf(1)), node(0, lf(3), zero))},
		{node(0, lf(most), lf(most)), lf(most)},
		{node(most, zero, zero), lf(most)},
		{node(1, lf(most-1), lf(most-2)), node(most-1, lf(1), zero)},
		{node(1, node(1, lf(most-2), lf(most-2)), lf(most-1)), lf(most)},
	} {
		if got, e := Norm(c.t); !same(got, c.want) || e != api.OK {
			t.Errorf("%s: %s, %d", text(c.t), text(got), e)
		}
	}
}

// P5.1: Norm begins at the deepest: all of one that is 16 deep may go, or one level, and what both Kids count comes up all the way.
func TestNormOfDeepOnes(t *testing.T) {
	for _, n := range []int{0, 1, most} {
		if got, e := Norm(full(16, lf(n), lf(n))); !same(got, lf(n)) || e != api.OK {
			t.Errorf("full of %d: %d", n, e)
		}
		for _, way := range ways(16) {
			if got, e := Norm(chain(way, 0, lf(n), lf(n))); !same(got, lf(n)) || e != api.OK {
				t.Errorf("%s of %d: %s, %d", way, n, text(got), e)
			}
		}
	}
	if got, e := Norm(full(16, lf(most), lf(most-1))); e != api.OK || got.N != most-1 || !same(lifter(1-most)(got), full(16, lf(1), zero)) {
		t.Error("full of two:", e)
	}
	for _, way := range ways(15) {
		if got, e := Norm(chain(way, 1, zero, node(2, lf(3), lf(3)))); !same(got, chain(way, 1, zero, lf(5))) || e != api.OK {
			t.Errorf("%s: %s, %d", way, text(got), e)
		}
		got, e := Norm(chain(way, 0, lf(most), node(1, lf(2), lf(3))))
		if want := chain(way, 0, lf(most-3), node(0, zero, lf(1))); e != api.OK || got.N != 3 || !same(lifter(-3)(got), want) {
			t.Errorf("%s: %s, %d", way, text(got), e)
		}
	}
}

// P5.1: Norm of a rough one Checks; of others it is ErrForm and nothing, also where a leaf would be left.
func TestNormRefuses(t *testing.T) {
	for _, w := range notShort() {
		if got, e := Norm(w); !Check(got) || e != api.OK {
			t.Errorf("%s: %s, %d", text(w), text(got), e)
		}
	}
	for i, w := range notRough() {
		if got, e := Norm(w); !same(got, zero) || e != api.ErrForm {
			t.Fatal(i, text(got), e)
		}
	}
}

// P5.1, P5.2: the chapter's examples.
func TestExample(t *testing.T) {
	a := node(1, zero, lf(2))
	for at, want := range map[int]int{0: 1, 1: 1, 32767: 1, 32768: 3, 65535: 3} {
		if At(a, at) != want {
			t.Error(at, At(a, at))
		}
	}
	if j, e := Join(node(0, zero, lf(2)), lf(1)); !same(j, node(1, zero, lf(1))) || e != api.OK {
		t.Error(text(j), e)
	}
}

// P5.2: At, Least and Greatest of all small ones.
func TestCountsOfSmallOnes(t *testing.T) {
	for _, q := range quarters(4) {
		s := ofCounts(q, 0)
		for _, at := range someAt() {
			if At(s, at) != q[at/16384] {
				t.Errorf("%s at %d: %d", text(s), at, At(s, at))
			}
		}
		if Least(s) != slices.Min(q) || Greatest(s) != slices.Max(q) {
			t.Errorf("%s: %d to %d", text(s), Least(s), Greatest(s))
		}
	}
}

// P5.2: At, Least and Greatest of those at their ends, at all places.
func TestCountsOfEdges(t *testing.T) {
	for _, s := range []api.Tree{
		lf(most), node(most-1, lf(1), zero), chain(ways(16)[2], 1, zero, lf(most-16)),
		chain(ways(16)[3], 0, lf(most), zero), node(1, zero, node(most-2, lf(1), zero)),
	} {
		for at, want := range counts(s, 65536) {
			if At(s, at) != want {
				t.Fatalf("%s at %d: %d", text(s), at, At(s, at))
			}
		}
	}
	for _, s := range edge() {
		l := counts(s, 65536)
		if Least(s) != slices.Min(l) || Greatest(s) != slices.Max(l) {
			t.Errorf("%s: %d to %d", text(s), Least(s), Greatest(s))
		}
	}
	odd := full(16, zero, lf(1))
	if At(odd, 0) != 0 || At(odd, 1) != 1 || At(odd, 4321) != 1 || At(odd, 4322) != 0 || At(odd, 65534) != 0 || At(odd, 65535) != 1 {
		t.Error("odd")
	}
}

// P5.2: the highest bit goes first: a lone count at the end of a way is at the places whose bits begin so, and what stands above it is added on the way.
func TestAtByBits(t *testing.T) {
	for n := 1; n <= 16; n++ {
		for _, way := range ways(n) {
			lone := chain(way, 1, zero, lf(5))
			bits, err := strconv.ParseUint(way, 2, 64)
			if err != nil {
				t.Fatal(err)
			}
			from := int(bits) << (16 - n)
			end := from + 1<<(16-n)
			for _, at := range []int{from, from + (end-from)/2, end - 1} {
				if At(lone, at) != n+5 {
					t.Error(way, at, At(lone, at))
				}
			}
			for _, at := range []int{from - 1, end} {
				if at >= 0 && at <= 65535 && At(lone, at) > n {
					t.Error("beside", way, at, At(lone, at))
				}
			}
			if Least(lone) != 1 || Greatest(lone) != n+5 {
				t.Error(way, Least(lone), Greatest(lone))
			}
		}
	}
}

// P5.2: what is below 0 or above 65535 is at no place.
func TestAtTheEnds(t *testing.T) {
	first, last := chain(ways(16)[0], 0, zero, lf(1)), chain(ways(16)[1], 0, zero, lf(1))
	for _, c := range []struct{ at, all, first, last int }{
		{math.MinInt, 0, 0, 0}, {-65536, 0, 0, 0}, {-1, 0, 0, 0},
		{0, 7, 1, 0}, {1, 7, 0, 0}, {65534, 7, 0, 0}, {65535, 7, 0, 1},
		{65536, 0, 0, 0}, {65537, 0, 0, 0}, {131071, 0, 0, 0}, {math.MaxInt, 0, 0, 0},
	} {
		if At(lf(7), c.at) != c.all || At(first, c.at) != c.first || At(last, c.at) != c.last || At(zero, c.at) != 0 {
			t.Error("at", c.at)
		}
	}
}

// P5.2: one that does not Check counts nothing, also where it is rough.
func TestCountsRefuse(t *testing.T) {
	for i, w := range append(notRough(), notShort()...) {
		if Least(w) != 0 || Greatest(w) != 0 {
			t.Fatal(i, Least(w), Greatest(w))
		}
		for _, at := range []int{-1, 0, 1, 32767, 32768, 65535, 65536} {
			if At(w, at) != 0 {
				t.Fatal(i, at, At(w, at))
			}
		}
	}
}

// P5.2: Leq and Join of all pairs of small ones.
func TestPairsOfSmallOnes(t *testing.T) {
	qs, l := quarters(4), sound(4)
	for i, a := range l {
		for j, b := range l {
			if want := allLeq(qs[i], qs[j]); Leq(a, b) != want {
				t.Fatal(text(a), text(b), !want)
			}
			want := ofCounts(greater(qs[i], qs[j]), 0)
			if got, e := Join(a, b); !same(got, want) || e != api.OK {
				t.Fatalf("%s, %s: %s, %d", text(a), text(b), text(got), e)
			}
		}
	}
	for i, a := range l {
		if !same(a, ofCounts(qs[i], 0)) {
			t.Fatal("changed:", text(a))
		}
	}
}

// P5.2: Join of some that are written out, either way round.
func TestJoin(t *testing.T) {
	up, down := node(0, zero, lf(2)), node(0, lf(2), zero)
	for _, c := range []struct{ a, b, want api.Tree }{
		{zero, zero, zero},
		{zero, lf(3), lf(3)},
		{up, zero, up},
		{up, lf(2), lf(2)},
		{up, lf(3), lf(3)},
		{up, down, lf(2)},
		{up, node(1, lf(2), zero), node(2, lf(1), zero)},
		{node(0, up, zero), node(0, down, zero), down},
		{node(0, up, zero), node(0, zero, lf(2)), node(0, up, lf(2))},
		{node(1, zero, down), node(0, lf(3), node(0, zero, lf(4))), node(3, zero, node(0, zero, lf(1)))},
		{lf(most), node(most-1, zero, lf(1)), lf(most)},
		{node(most-1, lf(1), zero), node(most-1, zero, lf(1)), lf(most)},
		{node(0, lf(most), zero), node(0, zero, lf(most-1)), node(most-1, lf(1), zero)},
	} {
		for _, p := range [][2]api.Tree{{c.a, c.b}, {c.b, c.a}} {
			if got, e := Join(p[0], p[1]); !same(got, c.want) || e != api.OK {
				t.Errorf("%s, %s: %s, %d", text(p[0]), text(p[1]), text(got), e)
			}
		}
	}
}

// P5.2: two that are 16 deep, or one of them: what is one more at one place alone is above, and Join may leave a leaf.
func TestPairsOfDeepOnes(t *testing.T) {
	for n := 1; n <= 16; n++ {
		for _, way := range ways(n) {
			lone, side := chain(way, 0, zero, lf(1)), chain(way, 0, lf(1), zero)
			if !Leq(zero, lone) || Leq(lone, zero) || !Leq(lone, lf(1)) || Leq(lf(1), lone) || Leq(lone, side) || Leq(side, lone) || !Leq(lone, lone) {
				t.Error("order", way)
			}
			for _, p := range [][2]api.Tree{{lone, side}, {side, lone}, {lone, lf(1)}, {lf(1), side}} {
				if got, e := Join(p[0], p[1]); !same(got, lf(1)) || e != api.OK {
					t.Error(way, text(got), e)
				}
			}
			if got, e := Join(zero, lone); !same(got, lone) || e != api.OK {
				t.Error(way, text(got), e)
			}
		}
	}
	odd, even := full(16, zero, lf(1)), full(16, lf(1), zero)
	if got, e := Join(odd, even); !same(got, lf(1)) || e != api.OK || Leq(odd, even) || Leq(even, odd) || !Leq(odd, lf(1)) {
		t.Error("odd and even:", e)
	}
}

// P5.2: pairs of those at their ends, all places asked.
func TestPairsOfEdges(t *testing.T) {
	l := edge()
	for i, b := range l[:12] {
		lb := counts(b, 65536)
		for _, a := range l[i:] {
			la := counts(a, 65536)
			if Leq(a, b) != allLeq(la, lb) || Leq(b, a) != allLeq(lb, la) {
				t.Fatal("order", text(a), text(b))
			}
			if got, e := Join(a, b); e != api.OK || !Check(got) || !slices.Equal(counts(got, 65536), greater(la, lb)) {
				t.Fatal(text(a), text(b), text(got), e)
			}
		}
	}
}

// P5.2: where one does not Check, at the top or deep down, Leq is false and Join is ErrForm and nothing, whatever the other one is.
func TestPairsRefuse(t *testing.T) {
	for i, w := range append(notRough(), notShort()...) {
		for _, o := range []api.Tree{zero, lf(most), node(1, zero, lf(2)), w} {
			for _, p := range [][2]api.Tree{{w, o}, {o, w}} {
				if Leq(p[0], p[1]) {
					t.Fatal("order", i)
				}
				if got, e := Join(p[0], p[1]); !same(got, zero) || e != api.ErrForm {
					t.Fatal(i, text(got), e)
				}
			}
		}
	}
}

// P5.3: Join is above both, and below each that is so.
func TestJoinIsTheLeastAbove(t *testing.T) {
	l := sound(3)
	for _, a := range l {
		for _, b := range l {
			j, e := Join(a, b)
			if e != api.OK || !Leq(a, j) || !Leq(b, j) {
				t.Fatal(text(a), text(b), text(j), e)
			}
			for _, c := range l {
				if Leq(a, c) && Leq(b, c) != Leq(j, c) || Leq(j, c) && !Leq(a, c) {
					t.Fatal(text(a), text(b), text(c), text(j))
				}
			}
		}
	}
}

// P5.3: of many joins the order does not count, nor how often one comes.
func TestManyJoins(t *testing.T) {
	var l []api.Tree
	for n := 1; n <= 16; n++ {
		for i, way := range ways(n) {
			l = append(l, chain(way, n%3, zero, lf(i*n+1)))
		}
	}
	forth, back := zero, zero
	for i := range 2 * len(l) {
		var e, f api.Errno
		forth, e = Join(forth, l[i*5%len(l)])
		back, f = Join(l[(2*len(l)-1-i)%len(l)], back)
		if e != api.OK || f != api.OK || !Check(forth) || !Check(back) {
			t.Fatal(i, e, f)
		}
	}
	if !same(forth, back) {
		t.Error(text(forth), text(back))
	}
	for _, a := range l {
		if !Leq(a, forth) {
			t.Error(text(a))
		}
	}
}

// R3: answers share no memory with what was handed in, and that is not changed.
func TestAnswersAreNew(t *testing.T) {
	for _, s := range append(append(sound(3), edge()...), notShort()...) {
		was := clone(s)
		n, _ := Norm(s)
		spoil(n)
		for _, o := range []api.Tree{zero, s, node(0, zero, lf(1)), node(0, lf(2), node(0, lf(1), zero))} {
			left, _ := Join(s, o)
			spoil(left)
			right, _ := Join(o, s)
			spoil(right)
		}
		Leq(s, s)
		At(s, 4321)
		if !same(s, was) {
			t.Fatal("changed:", text(was))
		}
	}
}

// R3: what is appended to an answer's empty list does not go into the room behind an argument's.
func TestRoomBehindIsLeft(t *testing.T) {
	room := []api.Tree{lf(1), lf(1)}
	l := api.Tree{N: 4, Kids: room[:0]}
	n, _ := Norm(l)
	j, _ := Join(l, l)
	split, _ := Norm(node(0, l, zero))
	for _, a := range []api.Tree{n, j, split.Kids[0]} {
		_ = append(a.Kids, zero, zero)
		if !same(api.Tree{Kids: room}, node(0, lf(1), lf(1))) {
			t.Fatal(text(a))
		}
	}
}

// R3: where one list stands in several places of what is handed in, the answer's lists are each its own.
func TestSharedListsBecomeTwo(t *testing.T) {
	kids := []api.Tree{lf(1), zero}
	one := api.Tree{Kids: kids}
	twice := node(2, one, one)
	n, e := Norm(twice)
	if e != api.OK || !same(n, twice) {
		t.Fatal(text(n), e)
	}
	j, e := Join(twice, zero)
	if e != api.OK || !same(j, twice) {
		t.Fatal(text(j), e)
	}
	for _, a := range []api.Tree{n, j} {
		a.Kids[0].Kids[0] = zero
		if !same(a.Kids[1], one) || !same(twice.Kids[0], node(0, lf(1), zero)) {
			t.Error(text(a), text(twice))
		}
	}
}
