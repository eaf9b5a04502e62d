package stamp_test

import (
	"math"
	"slices"
	"strconv"
	"testing"

	"plexus/api"
	"plexus/events"
	"plexus/idtree"
	"plexus/stamp"
)

const most = api.MaxCount

// nought and one are the leaves 0 and 1.
var nought, one = api.Tree{}, api.Tree{N: 1}

// lf answers a leaf.
func lf(n int) api.Tree {
	return api.Tree{N: n}
}

// ev answers a tree with two Kids, whatever they are.
func ev(n int, first api.Tree, second api.Tree) api.Tree {
	return api.Tree{N: n, Kids: []api.Tree{first, second}}
}

// id answers an identity with two Kids.
func id(first api.Tree, second api.Tree) api.Tree {
	return ev(0, first, second)
}

// st answers a stamp.
func st(i api.Tree, e api.Tree) api.Stamp {
	return api.Stamp{Id: i, Event: e}
}

// sameTree tells whether two trees are the same; nil and empty lists are.
func sameTree(a api.Tree, b api.Tree) bool {
	return a.N == b.N && slices.EqualFunc(a.Kids, b.Kids, sameTree)
}

// same tells whether two stamps are the same.
func same(a api.Stamp, b api.Stamp) bool {
	return sameTree(a.Id, b.Id) && sameTree(a.Event, b.Event)
}

// isZero tells whether all of a stamp is zero.
func isZero(s api.Stamp) bool {
	return same(s, api.Stamp{})
}

// cloneTree answers a tree that shares nothing with t.
func cloneTree(t api.Tree) api.Tree {
	c := lf(t.N)
	for _, k := range t.Kids {
		c.Kids = append(c.Kids, cloneTree(k))
	}
	return c
}

// clone answers a stamp that shares nothing with s.
func clone(s api.Stamp) api.Stamp {
	return st(cloneTree(s.Id), cloneTree(s.Event))
}

// spoilTree overwrites all that t's lists hold.
func spoilTree(t api.Tree) {
	for i := range t.Kids {
		spoilTree(t.Kids[i])
		t.Kids[i] = lf(77)
	}
}

// spoil overwrites all that s's lists hold.
func spoil(s api.Stamp) {
	spoilTree(s.Id)
	spoilTree(s.Event)
}

// textTree writes a tree: its N, and its Kids in brackets.
func textTree(t api.Tree) string {
	s := strconv.Itoa(t.N)
	for i, k := range t.Kids {
		s += []string{"(", " "}[min(i, 1)] + textTree(k)
	}
	if len(t.Kids) > 0 {
		s += ")"
	}
	return s
}

// text writes a stamp.
func text(s api.Stamp) string {
	return textTree(s.Id) + " | " + textTree(s.Event)
}

// chain answers a tree that goes down by the way ('0' first, '1' second Kid) to end, with n at each of its knots and side beside it all along.
func chain(way string, n int, side api.Tree, end api.Tree) api.Tree {
	t := end
	for i := len(way) - 1; i >= 0; i-- {
		if way[i] == '0' {
			t = ev(n, t, cloneTree(side))
		} else {
			t = ev(n, cloneTree(side), t)
		}
	}
	return t
}

// ways are some ways down of so many bits: all first, all second, both in turn, and one with a run of each.
func ways(n int) []string {
	l := []string{"", "", "", ""}
	for i := range n {
		l[0] += "0"
		l[1] += "1"
		l[2] += strconv.Itoa(i % 2)
		l[3] += strconv.Itoa(i / 4 % 2)
	}
	return l
}

// full answers a tree whose leaves all stand n deep: first and second in turn.
func full(n int, first api.Tree, second api.Tree) api.Tree {
	if n == 1 {
		return ev(0, first, second)
	}
	return ev(0, full(n-1, first, second), full(n-1, first, second))
}

// ofOwned answers the identity that owns these parts, side by side.
func ofOwned(own []bool) api.Tree {
	switch {
	case !slices.Contains(own, true):
		return nought
	case !slices.Contains(own, false):
		return one
	}
	half := len(own) / 2
	return id(ofOwned(own[:half]), ofOwned(own[half:]))
}

// ofCounts answers the one tree with these counts that may be: each N the least count below it, less what stands above.
func ofCounts(l []int, above int) api.Tree {
	least := slices.Min(l)
	if slices.Max(l) == least {
		return lf(least - above)
	}
	half := len(l) / 2
	return ev(least-above, ofCounts(l[:half], least), ofCounts(l[half:], least))
}

// owned answers which of so many parts the bits of n tell.
func owned(n int, parts int) []bool {
	l := make([]bool, parts)
	for i := range l {
		l[i] = n>>i&1 == 1
	}
	return l
}

// digits answers so many digits of n, to that base.
func digits(n int, base int, parts int) []int {
	l := make([]int, parts)
	for i := range l {
		l[i] = n % base
		n /= base
	}
	return l
}

// power answers base times itself so many times.
func power(base int, times int) int {
	n := 1
	for range times {
		n *= base
	}
	return n
}

// filledCounts answers what the document's filling makes of counts, by the parts that are owned.
func filledCounts(own []bool, counts []int) []int {
	greatest := slices.Max(counts)
	switch {
	case !slices.Contains(own, true), slices.Min(counts) == greatest:
		return slices.Clone(counts)
	case !slices.Contains(own, false):
		return slices.Repeat([]int{greatest}, len(own))
	}
	half := len(own) / 2
	first, second := filledCounts(own[:half], counts[:half]), filledCounts(own[half:], counts[half:])
	if !slices.Contains(own[:half], false) {
		first = slices.Repeat([]int{max(first[0], slices.Min(second))}, half)
	}
	if !slices.Contains(own[half:], false) {
		second = slices.Repeat([]int{max(second[0], slices.Min(first))}, half)
	}
	return append(first, second...)
}

// block is a run of parts that one leaf 1 of an identity owns: where it begins, how many, how deep.
type block struct{ at, size, depth int }

// blocks are those of an identity, from left to right.
func blocks(own []bool, at int, depth int) []block {
	switch {
	case !slices.Contains(own, true):
		return nil
	case !slices.Contains(own, false):
		return []block{{at, len(own), depth}}
	}
	half := len(own) / 2
	return append(blocks(own[:half], at, depth+1), blocks(own[half:], at+half, depth+1)...)
}

// leafDepth tells how deep the leaf at that part is.
func leafDepth(counts []int, at int) int {
	if slices.Min(counts) == slices.Max(counts) {
		return 0
	}
	half := len(counts) / 2
	if at < half {
		return 1 + leafDepth(counts[:half], at)
	}
	return 1 + leafDepth(counts[half:], at-half)
}

// grownCounts answers what growing makes of counts: a block costs as much as it is deep, and 1000 for each time that a leaf is parted ahead of it; of the cheapest ones the last one grows.
func grownCounts(own []bool, counts []int) []int {
	var best block
	least := math.MaxInt
	for _, b := range blocks(own, 0, 0) {
		if cost := b.depth + 1000*(b.depth-leafDepth(counts, b.at)); cost <= least {
			best, least = b, cost
		}
	}
	l := slices.Clone(counts)
	for i := range best.size {
		l[best.at+i]++
	}
	return l
}

// nextCounts answers what an Event makes of counts, and whether it grew.
func nextCounts(own []bool, counts []int) ([]int, bool) {
	if filled := filledCounts(own, counts); !slices.Equal(filled, counts) {
		return filled, false
	}
	return grownCounts(own, counts), true
}

// soundIds are identities that Check: all of eighths, and deep ones.
func soundIds() []api.Tree {
	var l []api.Tree
	for n := range 256 {
		l = append(l, ofOwned(owned(n, 8)))
	}
	return append(l, deepIds()...)
}

// deepIds are identities that Check, 15 and 16 deep.
func deepIds() []api.Tree {
	l := []api.Tree{full(10, one, nought), chain(ways(15)[3], 0, id(one, nought), id(nought, one))}
	for _, n := range []int{15, 16} {
		for _, way := range ways(n) {
			l = append(l, chain(way, 0, nought, one), chain(way, 0, one, nought))
		}
	}
	return l
}

// soundEvents are events that Check: of quarters, and deep or great ones.
func soundEvents() []api.Tree {
	l := []api.Tree{
		lf(most), lf(most - 1), ev(most-1, one, nought), ev(most-1, nought, one),
		ev(0, lf(most), nought), ev(0, nought, lf(most)), full(10, nought, one),
	}
	for n := range power(3, 4) {
		l = append(l, ofCounts(digits(n, 3, 4), 0))
	}
	for _, way := range ways(16) {
		l = append(l, chain(way, 0, nought, one), chain(way, 1, nought, lf(most-16)), chain(way, 0, lf(most), nought))
	}
	return l
}

// endless are trees that hold themselves.
func endless() []api.Tree {
	both, left, right, lone := make([]api.Tree, 2), make([]api.Tree, 2), make([]api.Tree, 2), make([]api.Tree, 1)
	both[0].Kids, both[1].Kids = both, both
	left[0].Kids, left[1].N = left, 1
	right[0].N, right[1].Kids = 1, right
	lone[0].Kids = lone
	return []api.Tree{{Kids: both}, {Kids: left}, {N: 3, Kids: right}, {Kids: lone}}
}

// wrongInBoth are trees that end, and are neither identities nor events.
func wrongInBoth() []api.Tree {
	l := []api.Tree{
		lf(-1), lf(most + 1), lf(math.MinInt), lf(math.MaxInt),
		{Kids: []api.Tree{one}}, {Kids: []api.Tree{nought}}, {Kids: []api.Tree{nought, one, nought}}, {N: 1, Kids: []api.Tree{nought, one, nought, one}},
		ev(0, nought, nought), ev(0, one, one), ev(-1, nought, one), ev(0, lf(-1), nought),
		ev(0, nought, ev(0, one, one)), ev(0, ev(0, nought, nought), one),
	}
	for _, n := range []int{17, 18, 1000} {
		for _, way := range ways(n) {
			l = append(l, chain(way, 0, nought, one), chain(way, 0, one, nought))
		}
	}
	return l
}

// wrongIds are trees that end, and are not identities that Check.
func wrongIds() []api.Tree {
	return append(wrongInBoth(), lf(2), lf(3), lf(most), ev(1, nought, one), ev(1, one, nought), id(lf(2), nought), id(one, lf(2)), id(one, ev(1, one, nought)), full(4, one, lf(2)))
}

// wrongEvents are trees that end, and are not events that Check.
func wrongEvents() []api.Tree {
	l := append(wrongInBoth(), ev(0, one, lf(2)), ev(1, lf(2), lf(2)), ev(most, one, nought), ev(1, nought, lf(most)), ev(0, ev(1, nought, one), one), full(4, lf(2), lf(3)))
	for _, way := range ways(16) {
		l = append(l, chain(way, 1, nought, lf(most-15)))
	}
	return l
}

// wrong are stamps that do not Check: by the Id, by the Event, by both, with ends and without.
func wrong() []api.Stamp {
	var l []api.Stamp
	someIds, someEvents := []api.Tree{nought, one, id(one, nought), chain(ways(16)[2], 0, nought, one)}, []api.Tree{nought, lf(3), ev(1, nought, lf(2)), lf(most)}
	for _, w := range append(wrongIds(), endless()...) {
		for _, e := range someEvents {
			l = append(l, st(w, e))
		}
	}
	for _, w := range append(wrongEvents(), endless()...) {
		for _, i := range someIds {
			l = append(l, st(i, w))
		}
	}
	for _, w := range wrongInBoth() {
		l = append(l, st(w, w), st(w, lf(-1)), st(lf(2), w))
	}
	for _, w := range endless() {
		l = append(l, st(w, w), st(lf(2), w), st(w, lf(-1)))
	}
	return l
}

// some are stamps that Check, of all sorts.
func some() []api.Stamp {
	var l []api.Stamp
	ids := append(deepIds(), nought, one, id(one, nought), id(nought, one), id(id(one, nought), one), id(id(one, nought), id(nought, one)))
	for _, i := range ids {
		for _, e := range soundEvents() {
			l = append(l, st(i, e))
		}
	}
	return l
}

// P6.1: the Seed is the Id 1, the Event 0; it is one that may be, and each call's own.
func TestSeed(t *testing.T) {
	s := stamp.Seed()
	if !same(s, st(one, nought)) || !stamp.Check(s) {
		t.Error(text(s))
	}
	s.Id.N, s.Event.N = 5, 5
	if !same(stamp.Seed(), st(one, nought)) {
		t.Error("another Seed is changed")
	}
}

// P6.1: Check is that of the Id and that of the Event.
func TestCheck(t *testing.T) {
	for _, i := range soundIds() {
		for _, e := range []api.Tree{nought, lf(2), lf(most), ev(1, nought, lf(2)), chain(ways(16)[2], 0, nought, one)} {
			if !stamp.Check(st(i, e)) {
				t.Error("refused:", text(st(i, e)))
			}
		}
	}
	for _, e := range soundEvents() {
		for _, i := range []api.Tree{nought, one, id(one, nought), chain(ways(16)[2], 0, nought, one)} {
			if !stamp.Check(st(i, e)) {
				t.Error("refused:", text(st(i, e)))
			}
		}
	}
	if !stamp.Check(api.Stamp{}) {
		t.Error("the zero stamp is one: nobody, who has seen nothing")
	}
	for n, s := range wrong() {
		if stamp.Check(s) {
			t.Error("taken:", n)
		}
	}
}

// P6.1: what an identity may not be an event may, and the other way round.
func TestCheckIsOfEitherItsOwn(t *testing.T) {
	for _, c := range []struct {
		s    api.Stamp
		want bool
	}{
		{st(one, lf(2)), true},
		{st(lf(2), one), false},
		{st(id(one, nought), ev(3, one, nought)), true},
		{st(ev(3, one, nought), id(one, nought)), false},
		{st(id(one, id(one, nought)), ev(0, nought, lf(9))), true},
		{st(ev(0, nought, lf(9)), nought), false},
		{st(id(one, id(one, nought)), id(one, id(one, nought))), true},
		{st(id(id(nought, one), one), ev(0, ev(0, nought, one), one)), true},
		{st(id(one, nought), ev(0, one, one)), false},
	} {
		if stamp.Check(c.s) != c.want {
			t.Error(text(c.s), !c.want)
		}
	}
}

// P6.1: Peek is the Id 0 and the same Event.
func TestPeek(t *testing.T) {
	for _, s := range some() {
		got := stamp.Peek(s)
		if !same(got, st(nought, s.Event)) || !stamp.Check(got) {
			t.Error(text(s), text(got))
		}
	}
}

// P6.1: the Event is the same also of one that does not Check; one without end comes to nothing.
func TestPeekOfWrongOnes(t *testing.T) {
	for _, i := range append(append(wrongIds(), endless()...), one) {
		for _, e := range []api.Tree{nought, lf(3), ev(1, nought, lf(2))} {
			if got := stamp.Peek(st(i, e)); !same(got, st(nought, e)) {
				t.Error(text(got))
			}
		}
	}
	for _, e := range wrongEvents() {
		if got := stamp.Peek(st(one, e)); !same(got, st(nought, e)) {
			t.Error(textTree(e), text(got))
		}
	}
	for _, e := range endless() {
		if got := stamp.Peek(st(one, e)); !isZero(got) {
			t.Error(text(got))
		}
		if got := stamp.Peek(st(one, ev(1, lf(2), e))); !isZero(got) {
			t.Error(text(got))
		}
	}
}

// R1: Peek ends of a tree that is small, but has a list in so many places that it would have no end to speak of.
func TestPeekEnds(t *testing.T) {
	e := lf(1)
	for range 40 {
		e = api.Tree{Kids: []api.Tree{e, e, e}}
	}
	if got := stamp.Peek(st(one, e)); !isZero(got) {
		t.Error("told")
	}
}

// P6.1: Leq is that of the Events, whatever the Ids are.
func TestLeq(t *testing.T) {
	ids := []api.Tree{nought, one, id(one, nought), id(id(nought, one), nought)}
	n := 0
	for _, a := range soundEvents() {
		for _, b := range soundEvents() {
			n++
			if got := stamp.Leq(st(ids[n%4], a), st(ids[n/4%4], b)); got != events.Leq(a, b) {
				t.Error(textTree(a), textTree(b), got)
			}
		}
	}
	if !stamp.Leq(api.Stamp{}, stamp.Seed()) || !stamp.Leq(stamp.Seed(), api.Stamp{}) {
		t.Error("neither has seen anything")
	}
	if !stamp.Leq(st(one, lf(1)), st(nought, lf(2))) || stamp.Leq(st(nought, lf(2)), st(one, lf(1))) {
		t.Error("1 is below 2")
	}
}

// P6.1: Leq is false, unless both Check: also where the Events alone are right.
func TestLeqRefuses(t *testing.T) {
	for n, w := range wrong() {
		if stamp.Leq(w, w) {
			t.Error("of itself:", n)
		}
		for _, s := range []api.Stamp{{}, stamp.Seed(), st(one, lf(most)), st(id(one, nought), lf(most))} {
			if stamp.Leq(w, s) || stamp.Leq(s, w) {
				t.Error("beside one that may be:", n)
			}
		}
	}
}

// P6.1: Fork's two have the halves of the Id, and the Event.
func TestFork(t *testing.T) {
	es := soundEvents()
	for n, i := range soundIds() {
		s := st(i, es[n%len(es)])
		first, second, e := idtree.Split(i)
		a, b, got := stamp.Fork(s)
		if got != e {
			t.Fatal(text(s), got)
		}
		if e == api.OK && (!same(a, st(first, s.Event)) || !same(b, st(second, s.Event))) || e != api.OK && (!isZero(a) || !isZero(b)) {
			t.Fatal(text(s), text(a), text(b))
		}
	}
}

// P6.1: Fork of some that are written out, and Split's errors: of the Id 0, and of a lone leaf 1 that is 16 deep.
func TestForkByHand(t *testing.T) {
	e := ev(1, nought, lf(2))
	for _, c := range []struct {
		id, first, second api.Tree
		err               api.Errno
	}{
		{one, id(one, nought), id(nought, one), api.OK},
		{id(one, nought), id(id(one, nought), nought), id(id(nought, one), nought), api.OK},
		{id(nought, one), id(nought, id(one, nought)), id(nought, id(nought, one)), api.OK},
		{id(one, id(one, nought)), id(one, nought), id(nought, id(one, nought)), api.OK},
		{nought, nought, nought, api.ErrNone},
		{chain(ways(15)[2], 0, nought, one), chain(ways(15)[2], 0, nought, id(one, nought)), chain(ways(15)[2], 0, nought, id(nought, one)), api.OK},
		{chain(ways(16)[0], 0, nought, one), nought, nought, api.ErrDeep},
		{chain(ways(16)[1], 0, nought, one), nought, nought, api.ErrDeep},
		{chain(ways(16)[2], 0, nought, one), nought, nought, api.ErrDeep},
	} {
		a, b, err := stamp.Fork(st(c.id, e))
		wantA, wantB := st(c.first, e), st(c.second, e)
		if c.err != api.OK {
			wantA, wantB = api.Stamp{}, api.Stamp{}
		}
		if err != c.err || !same(a, wantA) || !same(b, wantB) {
			t.Error(textTree(c.id), err, text(a), text(b))
		}
	}
}

// P6.1, R2: Fork and Event of one that does not Check are ErrForm and nothing, whatever else is wrong (an Id of 0, one that is too deep to split, a count that is full).
func TestForkAndEventRefuse(t *testing.T) {
	for n, w := range wrong() {
		if a, b, e := stamp.Fork(w); e != api.ErrForm || !isZero(a) || !isZero(b) {
			t.Error("fork", n, e)
		}
		if a, e := stamp.Event(w); e != api.ErrForm || !isZero(a) {
			t.Error("event", n, e)
		}
	}
}

// P6.1: Join's Id is the Sum, its Event the Join of both; of all pairs of identities of quarters, and of deep ones.
func TestJoin(t *testing.T) {
	var ids []api.Tree
	for n := range 16 {
		ids = append(ids, ofOwned(owned(n, 4)))
	}
	ids = append(ids, deepIds()...)
	es := soundEvents()
	n := 0
	for _, i := range ids {
		for _, j := range ids {
			n++
			a, b := st(i, es[n%len(es)]), st(j, es[n*7%len(es)])
			sum, e := idtree.Sum(i, j)
			event, _ := events.Join(a.Event, b.Event)
			want := st(sum, event)
			if e != api.OK {
				want = api.Stamp{}
			}
			if got, err := stamp.Join(a, b); err != e || !same(got, want) {
				t.Fatal(text(a), text(b), text(got), err)
			}
		}
	}
}

// P6.1: Join of some that are written out; where one part is owned by both it is ErrJoint, and nothing.
func TestJoinByHand(t *testing.T) {
	left, right := id(one, nought), id(nought, one)
	deep, beside := chain(ways(16)[2], 0, nought, one), chain("0101010101010100", 0, nought, one)
	for _, c := range []struct {
		a, b, want api.Stamp
		err        api.Errno
	}{
		{st(left, ev(0, nought, lf(2))), st(right, lf(1)), st(one, ev(1, nought, one)), api.OK},
		{st(nought, lf(4)), st(right, lf(1)), st(right, lf(4)), api.OK},
		{st(nought, ev(0, one, nought)), st(nought, ev(0, nought, one)), st(nought, one), api.OK},
		{st(nought, nought), st(nought, nought), api.Stamp{}, api.OK},
		{st(one, nought), st(nought, lf(most)), st(one, lf(most)), api.OK},
		{st(deep, lf(1)), st(beside, lf(2)), st(chain(ways(15)[2], 0, nought, one), lf(2)), api.OK},
		{st(one, lf(1)), st(one, lf(2)), api.Stamp{}, api.ErrJoint},
		{st(one, lf(1)), st(left, lf(2)), api.Stamp{}, api.ErrJoint},
		{st(left, lf(1)), st(left, lf(1)), api.Stamp{}, api.ErrJoint},
		{st(id(id(one, nought), one), lf(1)), st(right, lf(1)), api.Stamp{}, api.ErrJoint},
		{st(deep, nought), st(deep, nought), api.Stamp{}, api.ErrJoint},
		{st(deep, nought), st(one, nought), api.Stamp{}, api.ErrJoint},
	} {
		for range 2 {
			if got, err := stamp.Join(c.a, c.b); err != c.err || !same(got, c.want) {
				t.Error(text(c.a), text(c.b), text(got), err)
			}
			c.a, c.b = c.b, c.a
		}
	}
}

// P6.1, R2: Join with one that does not Check, as either argument or as both, is ErrForm and nothing, also where the Ids are joint.
func TestJoinRefuses(t *testing.T) {
	for n, w := range wrong() {
		for _, s := range []api.Stamp{{}, stamp.Seed(), st(id(one, nought), lf(3)), st(chain(ways(16)[2], 0, nought, one), nought), w} {
			if got, e := stamp.Join(w, s); e != api.ErrForm || !isZero(got) {
				t.Error("first", n, e)
			}
			if got, e := stamp.Join(s, w); e != api.ErrForm || !isZero(got) {
				t.Error("second", n, e)
			}
		}
	}
}

// P6.1, P6.2: the chapter's example.
func TestExample(t *testing.T) {
	s, e := stamp.Event(stamp.Seed())
	if e != api.OK || !same(s, st(one, lf(1))) {
		t.Fatal(text(s), e)
	}
	a, b, e := stamp.Fork(s)
	if e != api.OK || !same(a, st(id(one, nought), lf(1))) || !same(b, st(id(nought, one), lf(1))) {
		t.Fatal(text(a), text(b), e)
	}
	a, e = stamp.Event(a)
	if e != api.OK || !same(a, st(id(one, nought), ev(1, one, nought))) {
		t.Error(text(a), e)
	}
	b, e = stamp.Event(b)
	if e != api.OK || !same(b, st(id(nought, one), ev(1, nought, one))) {
		t.Error(text(b), e)
	}
	if j, e := stamp.Join(a, b); e != api.OK || !same(j, st(one, lf(2))) {
		t.Error(text(j), e)
	}
}

// P6.2: nobody counts nothing: ErrNone, whatever was seen.
func TestEventOfNobody(t *testing.T) {
	for _, e := range soundEvents() {
		if got, err := stamp.Event(st(nought, e)); err != api.ErrNone || !isZero(got) {
			t.Error(textTree(e), text(got), err)
		}
		if got, err := stamp.Event(stamp.Peek(st(one, e))); err != api.ErrNone || !isZero(got) {
			t.Error(textTree(e), text(got), err)
		}
	}
	if _, err := stamp.Event(api.Stamp{Id: api.Tree{Kids: []api.Tree{one, nought}[:0]}}); err != api.ErrNone {
		t.Error("a leaf 0 with room behind its list", err)
	}
}

// P6.2: filling, written out.
func TestEventFills(t *testing.T) {
	for _, c := range []struct{ id, event, want api.Tree }{
		// 1: its greatest count
		{one, ev(0, nought, lf(2)), lf(2)},
		{one, ev(3, lf(2), nought), lf(5)},
		{one, ev(1, ev(0, nought, lf(4)), ev(2, one, nought)), lf(5)},
		// one half: its greatest count, or the other one's least
		{id(one, nought), ev(1, nought, lf(2)), lf(3)},
		{id(nought, one), ev(1, lf(2), nought), lf(3)},
		{id(one, nought), ev(0, nought, ev(2, one, nought)), ev(2, nought, ev(0, one, nought))},
		{id(one, nought), ev(0, ev(0, nought, lf(3)), nought), ev(0, lf(3), nought)},
		{id(nought, one), ev(0, nought, ev(1, nought, lf(3))), ev(0, nought, lf(4))},
		{id(one, nought), ev(0, ev(0, nought, lf(3)), lf(5)), lf(5)},
		{id(one, nought), ev(0, ev(0, nought, lf(5)), lf(3)), ev(3, lf(2), nought)},
		// the other one's least, as it is when that one is filled
		{id(one, id(nought, one)), ev(0, nought, ev(0, lf(2), nought)), lf(2)},
		{id(id(one, nought), one), ev(0, ev(0, nought, lf(2)), nought), lf(2)},
		{id(id(nought, one), one), ev(0, ev(0, lf(2), nought), one), lf(2)},
		{id(one, id(one, id(one, nought))), ev(0, nought, ev(0, nought, ev(0, nought, one))), lf(1)},
		// neither half is 1: each filled by its own
		{id(id(one, nought), id(nought, one)), ev(0, ev(0, nought, one), ev(0, one, nought)), lf(1)},
		{id(id(one, nought), id(one, nought)), ev(0, ev(0, nought, one), ev(0, one, nought)), ev(0, one, ev(0, one, nought))},
		{id(nought, id(nought, one)), ev(0, one, ev(0, lf(4), nought)), ev(1, nought, lf(3))},
		// an identity with Kids leaves a leaf, and 0 leaves all; the rest is filled
		{id(id(one, nought), one), ev(0, lf(2), nought), lf(2)},
		{id(nought, one), ev(1, ev(1, nought, lf(3)), nought), ev(2, ev(0, nought, lf(3)), nought)},
	} {
		if got, e := stamp.Event(st(c.id, c.event)); e != api.OK || !same(got, st(c.id, c.want)) {
			t.Error(text(st(c.id, c.event)), text(got), e)
		}
	}
}

// P6.2: growing, written out.
func TestEventGrows(t *testing.T) {
	deep := ways(15)[2]
	for _, c := range []struct{ id, event, want api.Tree }{
		// 1 with a leaf
		{one, nought, lf(1)},
		{one, lf(7), lf(8)},
		{one, lf(most - 1), lf(most)},
		{id(one, nought), ev(1, lf(2), nought), ev(1, lf(3), nought)},
		{id(nought, one), ev(1, nought, lf(2)), ev(1, nought, lf(3))},
		{id(nought, one), ev(0, ev(0, nought, lf(3)), one), ev(0, ev(0, nought, lf(3)), lf(2))},
		// another one with a leaf: as with Kids 0, 0
		{id(one, nought), nought, ev(0, one, nought)},
		{id(nought, one), lf(5), ev(5, nought, one)},
		{id(id(nought, one), nought), lf(5), ev(5, ev(0, nought, one), nought)},
		{id(id(nought, one), nought), ev(0, nought, one), ev(0, ev(0, nought, one), one)},
		// the first one, if it is cheaper
		{id(one, id(one, nought)), nought, ev(0, one, nought)},
		{id(one, id(nought, one)), lf(4), ev(4, one, nought)},
		{id(id(one, nought), id(nought, one)), ev(0, ev(0, one, nought), nought), ev(0, ev(0, lf(2), nought), nought)},
		{id(id(one, nought), one), ev(0, ev(0, one, nought), nought), ev(0, ev(0, one, nought), one)},
		// equal cost, or dearer: the second one
		{id(id(one, nought), one), nought, ev(0, nought, one)},
		{id(id(one, nought), id(nought, one)), nought, ev(0, nought, ev(0, nought, one))},
		{id(id(one, nought), id(one, nought)), lf(3), ev(3, nought, ev(0, one, nought))},
		{id(id(one, nought), id(one, nought)), ev(0, ev(0, one, nought), ev(0, lf(4), nought)), ev(0, ev(0, one, nought), ev(0, lf(5), nought))},
		{id(id(one, nought), id(nought, one)), ev(0, nought, ev(0, nought, one)), ev(0, nought, ev(0, nought, lf(2)))},
		// ways of equal cost whose Kids are of unequal depth
		{id(id(id(one, nought), nought), id(nought, id(one, nought))), nought, ev(0, nought, ev(0, nought, ev(0, one, nought)))},
		// parted once, three down, or twice, two down: once is cheaper, however deep
		{id(id(nought, id(one, nought)), id(one, nought)), ev(0, ev(0, one, nought), nought), ev(0, ev(0, one, nought), ev(0, one, nought))},
		{id(id(nought, id(one, nought)), id(id(one, nought), nought)), ev(0, ev(0, one, nought), nought), ev(0, ev(0, one, ev(0, one, nought)), nought)},
		// all the way down through Kids that are there, or one leaf to part: parting is dearer than 16 Kids
		{id(chain(deep, 0, nought, one), id(one, nought)), ev(0, chain(deep, 0, nought, lf(3)), nought), ev(0, chain(deep, 0, nought, lf(4)), nought)},
		{id(id(nought, one), chain(deep, 0, nought, one)), ev(0, nought, chain(deep, 0, nought, lf(3))), ev(0, nought, chain(deep, 0, nought, lf(4)))},
		// a Kid whose identity is 0 does not grow, also where it would be cheap
		{id(nought, id(id(nought, one), nought)), ev(0, nought, one), ev(0, nought, ev(1, ev(0, nought, one), nought))},
		{id(id(id(nought, one), nought), nought), ev(0, one, nought), ev(0, ev(1, ev(0, nought, one), nought), nought)},
	} {
		if got, e := stamp.Event(st(c.id, c.event)); e != api.OK || !same(got, st(c.id, c.want)) {
			t.Error(text(st(c.id, c.event)), text(got), e)
		}
	}
}

// P6.2, P6.3: Event of all identities of that many parts with counts below base, every step-th of them: what the filling, or the cheapest growth, makes of the counts; above what was, and what is not owned stays.
func eventOfParts(t *testing.T, parts int, base int, step int) {
	filled, grown := 0, 0
	for o := 1; o < 1<<parts; o++ {
		own := owned(o, parts)
		for c := o % step; c < power(base, parts); c += step {
			counts := digits(c, base, parts)
			s := st(ofOwned(own), ofCounts(counts, 0))
			want, grew := nextCounts(own, counts)
			if grew {
				grown++
			} else {
				filled++
			}
			got, e := stamp.Event(s)
			if e != api.OK || !same(got, st(s.Id, ofCounts(want, 0))) || !stamp.Check(got) {
				t.Fatal(own, counts, want, text(got), e)
			}
			if !stamp.Leq(s, got) || stamp.Leq(got, s) {
				t.Fatal("not above:", own, counts, text(got))
			}
			for i := range parts {
				if at := i * (1 << 16) / parts; !own[i] && events.At(got.Event, at) != counts[i] {
					t.Fatal("what is another one's is changed:", own, counts, text(got))
				}
			}
		}
	}
	if filled == 0 || grown == 0 {
		t.Error("filled and grown:", filled, grown)
	}
}

// P6.2, P6.3: all that quarters may own and have seen below 5, and all that eighths may, of 0 and 1; some of 0 to 3.
func TestEventOfSmallOnes(t *testing.T) {
	eventOfParts(t, 2, 6, 1)
	eventOfParts(t, 4, 5, 1)
	eventOfParts(t, 8, 2, 1)
	eventOfParts(t, 8, 3, 101)
	eventOfParts(t, 8, 4, 997)
	eventOfParts(t, 16, 2, 60013)
}

// P6.2: a lone leaf 16 deep grows there, by parting or through the Kids, and is never too deep; beside what is 16 deep elsewhere, too.
func TestEventOfDeepOnes(t *testing.T) {
	for _, n := range []int{1, 15, 16} {
		for _, way := range ways(n) {
			s := st(chain(way, 0, nought, one), nought)
			for count := 1; count <= 3; count++ {
				next, e := stamp.Event(s)
				if e != api.OK || !same(next, st(s.Id, chain(way, 0, nought, lf(count)))) {
					t.Fatal(text(s), text(next), e)
				}
				s = next
			}
		}
	}
	mine, other := chain(ways(16)[0], 0, nought, one), chain(ways(16)[1], 0, nought, lf(4))
	got, e := stamp.Event(st(mine, other))
	want := ev(0, chain(ways(15)[0], 0, nought, one), chain(ways(15)[1], 0, nought, lf(4)))
	if e != api.OK || !same(got, st(mine, want)) || !stamp.Check(got) {
		t.Error(text(got), e)
	}
	// Who owns all but the last place, where 4 were seen, is filled from the deepest on: 4 all over.
	rest := chain(ways(16)[1], 0, one, nought)
	got, e = stamp.Event(st(rest, other))
	if e != api.OK || !same(got, st(rest, lf(4))) {
		t.Error(text(got), e)
	}
}

// P6.2: of 32768 leaves that cost the same the last one grows; and all are filled at once.
func TestEventOfFullOnes(t *testing.T) {
	for _, c := range []struct {
		first, second api.Tree
		way           string
	}{{one, nought, "1111111111111110"}, {nought, one, "1111111111111111"}} {
		i := full(16, c.first, c.second)
		got, e := stamp.Event(st(i, lf(2)))
		want := chain(c.way, 0, nought, one)
		want.N = 2
		if e != api.OK || !same(got, st(i, want)) {
			t.Fatal(c.way, e)
		}
		// Who owns the one half of each pair has seen 3 in the other one.
		got, e = stamp.Event(st(i, full(16, lf(3*c.second.N), lf(3*c.first.N))))
		if e != api.OK || !same(got, st(i, lf(3))) {
			t.Fatal(c.way, e)
		}
		// Where each has seen 1 more of its own than of the other one nothing is filled: the last one grows.
		own := full(16, c.first, c.second)
		got, e = stamp.Event(st(i, own))
		if e != api.OK || !stamp.Check(got) || events.Greatest(got.Event) != 2 || events.At(got.Event, 65534+c.second.N) != 2 {
			t.Fatal(c.way, e)
		}
	}
}

// P6.2: a count that would be above MaxCount is ErrCount, and nothing: of a leaf, of a sum on a way down, of a leaf that would be parted, on the cheapest way, even if another one has room.
func TestEventFull(t *testing.T) {
	for _, s := range []api.Stamp{
		st(one, lf(most)),
		st(id(one, nought), lf(most)),
		st(id(nought, one), lf(most)),
		st(id(one, nought), ev(most-1, one, nought)),
		st(id(nought, one), ev(most-1, nought, one)),
		st(id(one, nought), ev(0, lf(most), nought)),
		st(id(nought, id(one, nought)), ev(0, nought, lf(most))),
		st(id(nought, id(one, nought)), ev(1, nought, ev(most-2, one, nought))),
		st(id(id(one, nought), id(nought, one)), ev(0, nought, ev(0, nought, lf(most)))),
		st(id(id(one, nought), id(nought, one)), ev(0, ev(1, lf(most-1), nought), nought)),
		st(id(one, id(one, nought)), ev(most-1, one, nought)),
	} {
		if !stamp.Check(s) {
			t.Fatal(text(s))
		}
		if got, e := stamp.Event(s); e != api.ErrCount || !isZero(got) {
			t.Error(text(s), text(got), e)
		}
	}
	for _, way := range ways(16) {
		i := chain(way, 0, nought, one)
		for _, n := range []int{0, 1, 1000} {
			last := most - 16*n
			if got, e := stamp.Event(st(i, chain(way, n, nought, lf(last)))); e != api.ErrCount || !isZero(got) {
				t.Error(way, n, text(got), e)
			}
			if got, e := stamp.Event(st(i, chain(way, n, nought, lf(last-1)))); e != api.OK || !same(got, st(i, chain(way, n, nought, lf(last)))) {
				t.Error(way, n, text(got), e)
			}
		}
	}
}

// P6.2: filling, and growing below, go on where a count is MaxCount somewhere.
func TestEventBesideFullOnes(t *testing.T) {
	for _, c := range []struct{ id, event, want api.Tree }{
		{one, ev(0, lf(most), nought), lf(most)},
		{one, ev(most-1, nought, one), lf(most)},
		{id(nought, one), ev(most-1, one, nought), lf(most)},
		{id(nought, one), ev(0, lf(most), nought), lf(most)},
		{id(nought, one), ev(0, ev(0, lf(most), nought), nought), ev(0, ev(0, lf(most), nought), one)},
		{id(nought, id(one, nought)), ev(0, lf(most), nought), ev(0, lf(most), ev(0, one, nought))},
		{id(nought, id(one, nought)), ev(0, lf(most), lf(0)), ev(0, lf(most), ev(0, one, nought))},
		{id(nought, one), ev(1, ev(0, lf(most-1), nought), lf(most-2)), ev(1, ev(0, lf(most-1), nought), lf(most-1))},
	} {
		if got, e := stamp.Event(st(c.id, c.event)); e != api.OK || !same(got, st(c.id, c.want)) {
			t.Error(text(st(c.id, c.event)), text(got), e)
		}
	}
}

// P6.2, P6.3: what comes of deep and great ones Checks, is above what was, and not below it; an error is ErrCount or ErrNone alone.
func TestEventOfAllSorts(t *testing.T) {
	places := []int{0, 1, 2, 21844, 21845, 21846, 21847, 32767, 32768, 65533, 65534, 65535}
	for _, s := range some() {
		got, e := stamp.Event(s)
		if e != api.OK {
			if full := events.Greatest(s.Event) == most; !isZero(got) || e != api.ErrCount && e != api.ErrNone || e == api.ErrNone != sameTree(s.Id, nought) || e == api.ErrCount && !full {
				t.Error(text(s), text(got), e)
			}
			continue
		}
		if !stamp.Check(got) || !sameTree(got.Id, s.Id) || !stamp.Leq(s, got) || stamp.Leq(got, s) {
			t.Error(text(s), text(got))
		}
		for _, at := range places {
			if !idtree.Owns(s.Id, at) && events.At(got.Event, at) != events.At(s.Event, at) {
				t.Error("another one's place", at, text(s), text(got))
			}
		}
	}
}

// known is a stamp, and the events that led to it.
type known struct {
	s    api.Stamp
	seen map[int]bool
}

// P6.3: of stamps that come of the Seed by Forks, Events, Joins and Peeks, one has seen all that another one has just if all events that led to that one led to it.
func TestLeqIsWhatWasSeen(t *testing.T) {
	for start := range 20 {
		all := []known{{stamp.Seed(), map[int]bool{}}}
		draw, happened := uint32(start*7919+1), 0
		next := func(n int) int {
			draw = draw*1664525 + 1013904223
			return int(draw>>16) % n
		}
		for range 150 {
			i, j := next(len(all)), next(len(all))
			switch a, b := all[i], all[j]; {
			case next(3) > 0:
				s, e := stamp.Event(a.s)
				if e == api.OK {
					seen := with(a.seen, map[int]bool{happened: true})
					happened++
					all[i] = known{s, seen}
				} else if e != api.ErrNone {
					t.Fatal(text(a.s), e)
				}
			case next(2) > 0 && len(all) < 10:
				if x, y, e := stamp.Fork(a.s); e == api.OK {
					all[i] = known{x, a.seen}
					all = append(all, known{y, a.seen})
				}
			case i != j && next(2) > 0:
				s, e := stamp.Join(a.s, b.s)
				if e != api.OK {
					t.Fatal(text(a.s), text(b.s), e)
				}
				all[i] = known{s, with(a.seen, b.seen)}
				all = slices.Delete(all, j, j+1)
			case i != j:
				s, e := stamp.Join(a.s, stamp.Peek(b.s))
				if e != api.OK {
					t.Fatal(text(a.s), text(b.s), e)
				}
				all[i] = known{s, with(a.seen, b.seen)}
			case len(all) < 10:
				all = append(all, known{stamp.Peek(a.s), a.seen})
			}
			leqAsSeen(t, all)
		}
	}
}

// with answers what either has.
func with(a map[int]bool, b map[int]bool) map[int]bool {
	m := map[int]bool{}
	for k := range a {
		m[k] = true
	}
	for k := range b {
		m[k] = true
	}
	return m
}

// leqAsSeen holds Leq of all pairs against what was seen.
func leqAsSeen(t *testing.T, all []known) {
	t.Helper()
	for _, a := range all {
		for _, b := range all {
			want := len(with(a.seen, b.seen)) == len(b.seen)
			if stamp.Leq(a.s, b.s) != want {
				t.Fatal(text(a.s), text(b.s), !want)
			}
		}
	}
}

// R3: answers share no memory with what was handed in, nor with one another, and that is not changed.
func TestAnswersAreNew(t *testing.T) {
	for _, s := range some() {
		was := clone(s)
		p := stamp.Peek(s)
		spoil(p)
		n, _ := stamp.Event(s)
		spoil(n)
		a, b, _ := stamp.Fork(s)
		b1 := clone(b)
		spoil(a)
		if !same(b, b1) {
			t.Fatal("two halves share memory:", text(was))
		}
		spoil(b)
		nobody := st(nought, s.Event)
		for _, pair := range [][2]api.Stamp{{s, nobody}, {nobody, s}, {s, {}}, {{}, s}} {
			j, e := stamp.Join(pair[0], pair[1])
			if e != api.OK {
				t.Fatal(text(s), e)
			}
			spoil(j)
		}
		if !same(s, was) {
			t.Fatal("changed:", text(was), text(s))
		}
	}
	w := st(id(one, one), ev(1, lf(2), ev(1, lf(-3), lf(2))))
	was := clone(w)
	spoil(stamp.Peek(w))
	if !same(w, was) {
		t.Error("changed by a Peek:", text(w))
	}
}

// R3: where one list stands in several places of what is handed in, the answer's lists are each its own; so are the Id's and the Event's.
func TestSharedListsBecomeTwo(t *testing.T) {
	kids := []api.Tree{one, nought}
	half := api.Tree{Kids: kids}
	both := ev(0, half, half)
	s := st(both, both)
	want := cloneTree(both)
	p := stamp.Peek(s)
	p.Event.Kids[0].Kids[0] = lf(9)
	if !sameTree(p.Event.Kids[1], half) {
		t.Error("peek", text(p))
	}
	a, b, e := stamp.Fork(st(both, both))
	if e != api.OK {
		t.Fatal(e)
	}
	spoilTree(a.Id)
	if !sameTree(a.Event, want) || !sameTree(b.Id, id(nought, half)) || !sameTree(b.Event, want) {
		t.Error("fork", text(a), text(b))
	}
	a.Event.Kids[0].Kids[0] = lf(9)
	if !sameTree(a.Event.Kids[1], half) || !sameTree(b.Event, want) {
		t.Error("fork", text(a), text(b))
	}
	n, e := stamp.Event(s) // grows in the second half
	if e != api.OK || !same(n, st(both, ev(0, half, ev(0, lf(2), nought)))) {
		t.Fatal(text(n), e)
	}
	n.Id.Kids[0].Kids[0] = lf(9)
	if !sameTree(n.Id.Kids[1], half) || !sameTree(n.Event.Kids[0], half) || !same(s, st(want, want)) {
		t.Error("event", text(n), text(s))
	}
	j, e := stamp.Join(s, st(nought, both))
	if e != api.OK || !same(j, st(want, want)) {
		t.Fatal(text(j), e)
	}
	j.Id.Kids[0].Kids[0] = lf(9)
	if !sameTree(j.Id.Kids[1], half) || !sameTree(j.Event, want) || !same(s, st(want, want)) {
		t.Error("join", text(j), text(s))
	}
}

// R7: what room a list has behind its end is nobody's: it is neither read nor written.
func TestRoomBehindLists(t *testing.T) {
	room := func() []api.Tree { return []api.Tree{lf(5), lf(6), lf(7)}[:0] }
	ids := []api.Tree{one, nought, lf(8)}
	is, es := room(), room()
	s := st(api.Tree{N: 1, Kids: is}, api.Tree{N: 2, Kids: es})
	next, e := stamp.Event(s)
	if e != api.OK || !same(next, st(one, lf(3))) {
		t.Error(text(next), e)
	}
	p := stamp.Peek(s)
	if !same(p, st(nought, lf(2))) {
		t.Error(text(p))
	}
	a, b, e := stamp.Fork(s)
	if e != api.OK || !same(a, st(id(one, nought), lf(2))) || !same(b, st(id(nought, one), lf(2))) {
		t.Error(text(a), text(b), e)
	}
	j, e := stamp.Join(s, p)
	if e != api.OK || !same(j, st(one, lf(2))) {
		t.Error(text(j), e)
	}
	// What is put behind the lists of an answer is put into no other one's room.
	for _, x := range []api.Stamp{next, p, a, b, j} {
		_ = append(append(x.Id.Kids, lf(9)), append(x.Event.Kids, lf(9))...)
	}
	halved := st(api.Tree{Kids: ids[:2]}, api.Tree{N: 2, Kids: es})
	n, e := stamp.Event(halved)
	if e != api.OK || !same(n, st(id(one, nought), ev(2, one, nought))) {
		t.Error(text(n), e)
	}
	grown := st(n.Id, api.Tree{N: 2, Kids: append(n.Event.Kids, lf(9))[:2]})
	if n, e := stamp.Event(grown); e != api.OK || !same(n, st(id(one, nought), ev(2, lf(2), nought))) || grown.Event.Kids[:3][2].N != 9 {
		t.Error(text(n), e)
	}
	for _, l := range [][]api.Tree{is[:3], es[:3]} {
		if l[0].N != 5 || l[1].N != 6 || l[2].N != 7 {
			t.Error("written behind an end:", l)
		}
	}
	if ids[2].N != 8 {
		t.Error("written behind an end:", ids)
	}
}
