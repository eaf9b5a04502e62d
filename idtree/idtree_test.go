package idtree

import (
	"math"
	"slices"
	"strconv"
	"testing"

	"plexus/api"
)

// The leaves.
var zero, one = api.Tree{}, api.Tree{N: 1}

// node answers a tree with two Kids, which may be leaves of one N.
func node(first api.Tree, second api.Tree) api.Tree {
	return api.Tree{Kids: []api.Tree{first, second}}
}

// same tells whether two trees are the same; nil and empty lists are.
func same(a api.Tree, b api.Tree) bool {
	return a.N == b.N && slices.EqualFunc(a.Kids, b.Kids, same)
}

// clone answers a tree that shares nothing with t.
func clone(t api.Tree) api.Tree {
	c := api.Tree{N: t.N}
	for _, k := range t.Kids {
		c.Kids = append(c.Kids, clone(k))
	}
	return c
}

// spoil overwrites all that t's lists hold.
func spoil(t api.Tree) {
	for i := range t.Kids {
		spoil(t.Kids[i])
		t.Kids[i] = api.Tree{N: 77}
	}
}

// depth answers how deep t is.
func depth(t api.Tree) int {
	d := 0
	for _, k := range t.Kids {
		d = max(d, 1+depth(k))
	}
	return d
}

// text writes a tree: 0, 1, or its Kids in brackets.
func text(t api.Tree) string {
	if len(t.Kids) == 0 {
		return strconv.Itoa(t.N)
	}
	s := ""
	if t.N != 0 {
		s = strconv.Itoa(t.N)
	}
	for i, k := range t.Kids {
		s += []string{"(", " "}[min(i, 1)] + text(k)
	}
	return s + ")"
}

// chain answers a tree that goes down by the way ('0' first, '1' second Kid) to end, with side beside it all along.
func chain(way string, side api.Tree, end api.Tree) api.Tree {
	t := end
	for i := len(way) - 1; i >= 0; i-- {
		if way[i] == '0' {
			t = node(t, clone(side))
		} else {
			t = node(clone(side), t)
		}
	}
	return t
}

// ways are some ways down of so many bits: all first, all second, both in turn, and one with a run of each.
func ways(n int) []string {
	l := []string{"", "", "", ""}
	for i := range n {
		l[0] += "0"
		l[1] += "1"
		l[2] += strconv.Itoa(i % 2)
		l[3] += strconv.Itoa(i / 4 % 2)
	}
	return l
}

// full answers a tree whose leaves all stand n deep: first and second in turn.
func full(n int, first api.Tree, second api.Tree) api.Tree {
	if n == 1 {
		return node(first, second)
	}
	return node(full(n-1, first, second), full(n-1, first, second))
}

// roughs are all rough trees of at most that depth.
func roughs(most int) []api.Tree {
	l := []api.Tree{zero, one}
	if most == 0 {
		return l
	}
	less := roughs(most - 1)
	for _, a := range less {
		for _, b := range less {
			l = append(l, node(a, b))
		}
	}
	return l
}

// eighths tells as bits, that of the first one lowest, which of eight parts side by side a rough t of depth 3 at most owns.
func eighths(t api.Tree) int {
	return parts(t, 8)
}

func parts(t api.Tree, n int) int {
	if len(t.Kids) == 0 {
		return t.N * (1<<n - 1)
	}
	return parts(t.Kids[0], n/2) | parts(t.Kids[1], n/2)<<(n/2)
}

// ofEighths answers the one tree without two leaves of one N as Kids that owns these of n parts.
func ofEighths(bits int, n int) api.Tree {
	switch bits {
	case 0:
		return zero
	case 1<<n - 1:
		return one
	}
	return node(ofEighths(bits&(1<<(n/2)-1), n/2), ofEighths(bits>>(n/2), n/2))
}

// sound are the trees that Check and are at most 3 deep: one for each choice of eighths.
func sound() []api.Tree {
	var l []api.Tree
	for bits := range 256 {
		l = append(l, ofEighths(bits, 8))
	}
	return l
}

// broken are trees that are not rough, by what they have at their top.
func broken() []api.Tree {
	l := []api.Tree{
		{Kids: []api.Tree{one}},
		{Kids: []api.Tree{zero}},
		{Kids: []api.Tree{one, zero, one}},
		{Kids: []api.Tree{zero, one, zero}},
		{Kids: []api.Tree{one, one, one}},
		{Kids: []api.Tree{one, zero, one, zero}},
		{N: 1, Kids: []api.Tree{one}},
	}
	for _, n := range []int{2, 3, -1, -2, 16, math.MaxInt, math.MinInt} {
		l = append(l, api.Tree{N: n}, node(one, api.Tree{N: n}), node(api.Tree{N: n}, zero), node(api.Tree{N: n}, api.Tree{N: n}))
	}
	for _, n := range []int{1, 2, -1, math.MaxInt, math.MinInt} {
		l = append(l, api.Tree{N: n, Kids: []api.Tree{one, zero}}, api.Tree{N: n, Kids: []api.Tree{one, one}})
	}
	return l
}

// endless are trees that hold themselves.
func endless() []api.Tree {
	both, left, right, lone := make([]api.Tree, 2), make([]api.Tree, 2), make([]api.Tree, 2), make([]api.Tree, 1)
	both[0].Kids, both[1].Kids = both, both
	left[0].Kids, left[1].N = left, 1
	right[0].N, right[1].Kids = 1, right
	lone[0].Kids = lone
	return []api.Tree{{Kids: both}, {Kids: left}, {Kids: right}, {Kids: lone}}
}

// notRough are trees that are not rough: by what they have at their top or further down, too deep, without end.
func notRough() []api.Tree {
	l := append(broken(), endless()...)
	for _, w := range broken() {
		for _, n := range []int{1, 2, 7, 15} {
			for _, way := range ways(n) {
				l = append(l, chain(way, zero, w), chain(way, node(zero, one), w))
			}
		}
	}
	for _, n := range []int{17, 18, 40, 1000} {
		for _, way := range ways(n) {
			l = append(l, chain(way, zero, one), chain(way, one, zero), chain(way, one, one), chain(way, zero, zero))
		}
	}
	return append(l, full(17, one, zero), full(17, one, one))
}

// notShort are rough trees that have two leaves of one N as Kids.
func notShort() []api.Tree {
	var l []api.Tree
	for _, w := range []api.Tree{node(zero, zero), node(one, one)} {
		l = append(l, w, node(w, w), node(w, one), node(zero, w), node(node(zero, one), w))
		for _, n := range []int{1, 2, 7, 15} {
			for _, way := range ways(n) {
				l = append(l, chain(way, zero, w), chain(way, one, w), chain(way, node(one, zero), w)) // the last at 15: 16 deep
			}
		}
	}
	return l
}

// deep are trees that Check, 15 and 16 deep.
func deep() []api.Tree {
	l := []api.Tree{full(15, one, zero), full(16, one, zero), full(16, zero, one)}
	for _, n := range []int{15, 16} {
		for _, way := range ways(n) {
			l = append(l, chain(way, zero, one), chain(way, one, zero))
		}
	}
	for _, way := range ways(15) {
		l = append(l, chain(way, node(one, zero), node(zero, one)))
	}
	return l
}

// edges are places at and beside each eighth's ends.
func edges() []int {
	var l []int
	for i := range 8 {
		l = append(l, i*8192, i*8192+1, i*8192+8190, i*8192+8191)
	}
	return l
}

// P4.1: Check of all rough trees up to 3 deep takes just those that are the shortest of what they own.
func TestCheckOfSmallOnes(t *testing.T) {
	count := 0
	for _, r := range roughs(3) {
		want := same(r, ofEighths(eighths(r), 8))
		if Check(r) != want {
			t.Error(text(r), !want)
		}
		if want {
			count++
		}
	}
	if count != 256 {
		t.Error("taken:", count)
	}
}

// P4.1: the leaves, and an empty list of Kids, with room behind it or not, is none.
func TestCheckOfLeaves(t *testing.T) {
	for _, n := range []int{math.MinInt, -1, 0, 1, 2, math.MaxInt} {
		want := n == 0 || n == 1
		for _, kids := range [][]api.Tree{nil, {}, make([]api.Tree, 0, 2), []api.Tree{one, one, one}[:0]} {
			l := api.Tree{N: n, Kids: kids}
			if Check(l) != want {
				t.Error(n, !want)
			}
			got, e := Norm(l)
			if want && (!same(got, l) || e != api.OK) || !want && (!same(got, zero) || e != api.ErrForm) {
				t.Error("norm of", n, text(got), e)
			}
		}
	}
	if !Check(api.Tree{Kids: []api.Tree{one, zero, one}[:2]}) {
		t.Error("what is behind a list's end is nobody's")
	}
}

// P4.1: 16 deep is not too deep, 17 is.
func TestCheckOfDeepOnes(t *testing.T) {
	for _, d := range deep() {
		if !Check(d) {
			t.Error("refused:", text(d))
		}
	}
	for _, way := range append(ways(17), ways(18)...) {
		if Check(chain(way, zero, one)) || Check(chain(way, one, zero)) {
			t.Error("taken:", way)
		}
	}
}

// P4.1: what is wrong, at the top or deep down, is refused.
func TestCheckRefuses(t *testing.T) {
	for _, w := range append(notRough(), notShort()...) {
		if Check(w) {
			t.Fatal("taken")
		}
	}
}

// P4.1: Norm of all rough trees up to 3 deep is the shortest of what they own.
func TestNormOfSmallOnes(t *testing.T) {
	for _, r := range roughs(3) {
		was := clone(r)
		got, e := Norm(r)
		if !same(got, ofEighths(eighths(r), 8)) || e != api.OK || !same(r, was) {
			t.Errorf("%s: %s, %d", text(was), text(got), e)
		}
	}
}

// P4.1: Norm of some that are written out.
func TestNorm(t *testing.T) {
	mixed := node(zero, one)
	for _, c := range []struct{ t, want api.Tree }{
		{zero, zero},
		{one, one},
		{mixed, mixed},
		{node(one, one), one},
		{node(zero, zero), zero},
		{node(node(one, one), one), one},
		{node(node(zero, zero), node(zero, zero)), zero},
		{node(node(one, one), zero), node(one, zero)},
		{node(mixed, mixed), node(mixed, mixed)},
		{node(mixed, node(node(one, one), one)), node(mixed, one)},
		{node(node(zero, node(one, one)), node(zero, zero)), node(mixed, zero)},
	} {
		if got, e := Norm(c.t); !same(got, c.want) || e != api.OK {
			t.Errorf("%s: %s, %d", text(c.t), text(got), e)
		}
	}
}

// P4.1: Norm begins at the deepest: all of one that is 16 deep may go, or one level.
func TestNormOfDeepOnes(t *testing.T) {
	for _, leaf := range []api.Tree{zero, one} {
		if got, e := Norm(full(16, leaf, leaf)); !same(got, leaf) || e != api.OK {
			t.Errorf("full of %d: %d", leaf.N, e)
		}
		for _, way := range ways(16) {
			if got, e := Norm(chain(way, leaf, leaf)); !same(got, leaf) || e != api.OK {
				t.Errorf("%s of %d: %s, %d", way, leaf.N, text(got), e)
			}
		}
	}
	for _, way := range ways(15) {
		if got, e := Norm(chain(way, zero, node(one, one))); !same(got, chain(way, zero, one)) || e != api.OK {
			t.Errorf("%s: %s, %d", way, text(got), e)
		}
	}
	for _, d := range deep() {
		if got, e := Norm(d); !same(got, d) || e != api.OK {
			t.Errorf("%s: %s, %d", text(d), text(got), e)
		}
	}
}

// P4.1: Norm of a rough one Checks; of others it is ErrForm and nothing, also where a leaf would be left.
func TestNormRefuses(t *testing.T) {
	for _, w := range notShort() {
		if got, e := Norm(w); !Check(got) || e != api.OK {
			t.Errorf("%s: %s, %d", text(w), text(got), e)
		}
	}
	for _, w := range notRough() {
		if got, e := Norm(w); !same(got, zero) || e != api.ErrForm {
			t.Fatal(text(got), e)
		}
	}
}

// P4.2, P4.3: the chapter's example.
func TestExample(t *testing.T) {
	a, b, e := Split(one)
	if !same(a, node(one, zero)) || !same(b, node(zero, one)) || e != api.OK {
		t.Fatal(text(a), text(b), e)
	}
	if Share(a) != 32768 || Share(b) != 32768 {
		t.Error(Share(a), Share(b))
	}
	if s, e := Sum(a, b); !same(s, one) || e != api.OK {
		t.Error(text(s), e)
	}
}

// P4.2: Split of some that are written out.
func TestSplit(t *testing.T) {
	first, second := node(one, zero), node(zero, one)
	for _, c := range []struct{ t, a, b api.Tree }{
		{one, first, second},
		{first, node(first, zero), node(second, zero)},
		{second, node(zero, first), node(zero, second)},
		{node(second, zero), node(node(zero, first), zero), node(node(zero, second), zero)},
		{node(zero, first), node(zero, node(first, zero)), node(zero, node(second, zero))},
		{node(one, second), first, node(zero, second)},
		{node(first, one), node(first, zero), second},
		{node(first, second), node(first, zero), node(zero, second)},
		{node(zero, node(first, one)), node(zero, node(first, zero)), node(zero, second)},
		{node(node(one, second), zero), node(first, zero), node(node(zero, second), zero)},
	} {
		if a, b, e := Split(c.t); !same(a, c.a) || !same(b, c.b) || e != api.OK {
			t.Errorf("%s: %s, %s, %d", text(c.t), text(a), text(b), e)
		}
	}
}

// P4.2: there is nothing to split of the leaf 0.
func TestSplitOfNothing(t *testing.T) {
	for _, kids := range [][]api.Tree{nil, {}} {
		if a, b, e := Split(api.Tree{Kids: kids}); !same(a, zero) || !same(b, zero) || e != api.ErrNone {
			t.Error(text(a), text(b), e)
		}
	}
}

// P4.2: a lone leaf 1 is split down to 16 deep; there it is too deep, and both results are nothing.
func TestSplitTooDeep(t *testing.T) {
	for n := range 16 {
		for _, way := range ways(n) {
			a, b, e := Split(chain(way, zero, one))
			if !same(a, chain(way+"0", zero, one)) || !same(b, chain(way+"1", zero, one)) || e != api.OK {
				t.Errorf("%s: %s, %s, %d", way, text(a), text(b), e)
			}
		}
	}
	for _, way := range ways(16) {
		if a, b, e := Split(chain(way, zero, one)); !same(a, zero) || !same(b, zero) || e != api.ErrDeep {
			t.Errorf("%s: %s, %s, %d", way, text(a), text(b), e)
		}
	}
}

// P4.2: one of 16 deep that has two Kids to part, at the top or deep down, is not too deep.
func TestSplitOfDeepOnes(t *testing.T) {
	for _, n := range []int{0, 1, 8, 14} {
		for _, way := range ways(n) {
			for _, rest := range ways(15 - n) {
				end := chain(rest, zero, one)
				a, b, e := Split(chain(way, zero, node(end, one)))
				if !same(a, chain(way+"0", zero, end)) || !same(b, chain(way+"1", zero, one)) || e != api.OK {
					t.Errorf("%s, %s: %s, %s, %d", way, rest, text(a), text(b), e)
				}
			}
		}
	}
}

// P4.2, R2: of one that does not Check both are nothing, whatever else is wrong.
func TestSplitRefuses(t *testing.T) {
	for _, w := range append(notRough(), notShort()...) {
		if a, b, e := Split(w); !same(a, zero) || !same(b, zero) || e != api.ErrForm {
			t.Fatal(text(a), text(b), e)
		}
	}
}

// P4.3: Sum of some that are written out, either way round.
func TestSum(t *testing.T) {
	first, second := node(one, zero), node(zero, one)
	for _, c := range []struct{ a, b, want api.Tree }{
		{zero, zero, zero},
		{zero, one, one},
		{zero, first, first},
		{zero, node(first, second), node(first, second)},
		{first, second, one},
		{node(first, zero), node(second, zero), first},
		{node(first, zero), second, node(first, one)},
		{node(first, first), node(second, second), one},
		{node(first, zero), node(zero, second), node(first, second)},
		{node(zero, node(first, zero)), node(zero, node(second, one)), second},
	} {
		for _, p := range [][2]api.Tree{{c.a, c.b}, {c.b, c.a}} {
			if got, e := Sum(p[0], p[1]); !same(got, c.want) || e != api.OK || !Apart(p[0], p[1]) {
				t.Errorf("%s, %s: %s, %d", text(p[0]), text(p[1]), text(got), e)
			}
		}
	}
}

// P4.3, P4.4: Sum and Apart of all pairs up to 3 deep: what no two own is one's that owns what either does, else they are joint.
func TestSumOfSmallOnes(t *testing.T) {
	l := sound()
	for i, a := range l {
		for j, b := range l {
			want, err := ofEighths(i|j, 8), api.OK
			if i&j != 0 {
				want, err = zero, api.ErrJoint
			}
			if got, e := Sum(a, b); !same(got, want) || e != err {
				t.Fatalf("%s, %s: %s, %d", text(a), text(b), text(got), e)
			}
			if Apart(a, b) != (i&j == 0) {
				t.Fatalf("%s, %s: apart %v", text(a), text(b), i&j != 0)
			}
		}
	}
	for i, a := range l {
		if !same(a, ofEighths(i, 8)) {
			t.Fatal("changed:", text(a))
		}
	}
}

// P4.3: two that are not apart at one place alone, at each depth, are joint.
func TestSumOfJointOnes(t *testing.T) {
	if got, e := Sum(one, one); !same(got, zero) || e != api.ErrJoint || Apart(one, one) {
		t.Error("at the top:", text(got), e)
	}
	for n := 1; n <= 16; n++ {
		for _, way := range ways(n) {
			lone, side := chain(way, zero, one), chain(way, one, zero)
			for _, p := range [][2]api.Tree{{lone, lone}, {lone, one}, {one, lone}, {side, side}, {side, one}, {one, side}} {
				if got, e := Sum(p[0], p[1]); !same(got, zero) || e != api.ErrJoint || Apart(p[0], p[1]) {
					t.Errorf("%s, %s: %s, %d", text(p[0]), text(p[1]), text(got), e)
				}
			}
			if got, e := Sum(lone, side); !same(got, one) || e != api.OK || !Apart(side, lone) {
				t.Errorf("%s, %s: %s, %d", text(lone), text(side), text(got), e)
			}
		}
	}
	odd, even := full(16, zero, one), full(16, one, zero)
	if got, e := Sum(odd, even); !same(got, one) || e != api.OK {
		t.Error("odd and even:", e)
	}
	if _, e := Sum(odd, chain(ways(16)[1], zero, one)); e != api.ErrJoint {
		t.Error("odd, and the last one:", e)
	}
}

// P4.3: a Kid deep down that is 1 beside one with Kids of its own is joint, also where that one owns little.
func TestSumOfJointOnesBelow(t *testing.T) {
	for n := range 16 {
		for _, way := range ways(n) {
			a, b := chain(way, zero, one), chain(way, zero, node(zero, one))
			if _, e := Sum(a, b); e != api.ErrJoint || Apart(a, b) || Apart(b, a) {
				t.Error(text(a), text(b), e)
			}
		}
	}
}

// P4.3, R2: where one does not Check it is ErrForm, whatever the other one is, also 0 and one that is joint.
func TestSumRefuses(t *testing.T) {
	for _, w := range append(notRough(), notShort()...) {
		for _, o := range []api.Tree{zero, one, node(one, zero), node(zero, one), w} {
			for _, p := range [][2]api.Tree{{w, o}, {o, w}} {
				if got, e := Sum(p[0], p[1]); !same(got, zero) || e != api.ErrForm {
					t.Fatal(text(got), e)
				}
				if Apart(p[0], p[1]) {
					t.Fatal("apart")
				}
			}
		}
	}
}

// P4.3: Owns and Share of all up to 3 deep.
func TestOwnsOfSmallOnes(t *testing.T) {
	for bits, s := range sound() {
		share := 0
		for i := range 8 {
			share += (bits >> i & 1) * 8192
		}
		if Share(s) != share {
			t.Errorf("%s: share %d, not %d", text(s), Share(s), share)
		}
		for _, at := range edges() {
			if want := bits>>(at/8192)&1 == 1; Owns(s, at) != want {
				t.Errorf("%s at %d: %v", text(s), at, !want)
			}
		}
	}
}

// P4.3: what is below 0 or above 65535 is nobody's, also of one who owns all.
func TestOwnsAtTheEnds(t *testing.T) {
	first, last := chain(ways(16)[0], zero, one), chain(ways(16)[1], zero, one)
	for _, c := range []struct {
		at               int
		all, first, last bool
	}{
		{math.MinInt, false, false, false}, {-65536, false, false, false}, {-1, false, false, false},
		{0, true, true, false}, {1, true, false, false}, {65534, true, false, false}, {65535, true, false, true},
		{65536, false, false, false}, {65537, false, false, false}, {131071, false, false, false}, {math.MaxInt, false, false, false},
	} {
		if Owns(one, c.at) != c.all || Owns(first, c.at) != c.first || Owns(last, c.at) != c.last || Owns(zero, c.at) {
			t.Error("at", c.at)
		}
	}
}

// P4.3: the highest bit goes first: one that is a leaf 1 at the end of a way owns the places whose bits begin so.
func TestOwnsByBits(t *testing.T) {
	for n := 1; n <= 16; n++ {
		for _, way := range ways(n) {
			lone, side := chain(way, zero, one), chain(way, one, zero)
			bits, err := strconv.ParseUint(way, 2, 64)
			if err != nil {
				t.Fatal(err)
			}
			from := int(bits) << (16 - n)
			end := from + 1<<(16-n)
			if Share(lone) != end-from || Share(side) != 65536-(end-from) {
				t.Error(way, Share(lone), Share(side))
			}
			for _, at := range []int{0, 1, 65534, 65535, from - 1, from, from + 1, end - 2, end - 1, end} {
				mine := at >= from && at < end
				if Owns(lone, at) != mine || Owns(side, at) != (!mine && at >= 0 && at <= 65535) {
					t.Error(way, at)
				}
			}
		}
	}
}

// P4.3: Share is how many at Owns tells, all asked.
func TestShareIsWhatIsOwned(t *testing.T) {
	for _, s := range []api.Tree{zero, one, node(one, zero), ofEighths(0b10110010, 8), chain(ways(16)[2], zero, one), chain(ways(16)[3], one, zero)} {
		count := 0
		for at := -2; at < 65538; at++ {
			if Owns(s, at) {
				count++
			}
		}
		if Share(s) != count {
			t.Errorf("%s: %d, not %d", text(s), Share(s), count)
		}
	}
	odd := full(16, zero, one)
	if Share(odd) != 32768 || !Owns(odd, 1) || Owns(odd, 0) || !Owns(odd, 65535) || Owns(odd, 65534) || !Owns(odd, 4321) || Owns(odd, 4322) {
		t.Error("odd")
	}
	if Share(zero) != 0 || Share(one) != 65536 {
		t.Error("leaves:", Share(zero), Share(one))
	}
}

// P4.3: one that does not Check owns nothing.
func TestOwnsRefuses(t *testing.T) {
	for _, w := range append(notRough(), notShort()...) {
		if Share(w) != 0 {
			t.Fatal("share", Share(w))
		}
		for _, at := range []int{-1, 0, 1, 32767, 32768, 65535, 65536} {
			if Owns(w, at) {
				t.Fatal("at", at)
			}
		}
	}
}

// splitHolds asks what P4.4 says of a Split: it Checks, is apart, owns what was split, and its Sum is that.
func splitHolds(t *testing.T, s api.Tree, a api.Tree, b api.Tree) {
	if !Check(a) || !Check(b) || !Apart(a, b) || !Apart(b, a) || Share(a) == 0 || Share(b) == 0 || Share(a)+Share(b) != Share(s) {
		t.Errorf("%s: %s, %s", text(s), text(a), text(b))
	}
	for _, p := range [][2]api.Tree{{a, b}, {b, a}} {
		if got, e := Sum(p[0], p[1]); !same(got, s) || e != api.OK {
			t.Errorf("%s and %s: %s, %d, not %s", text(p[0]), text(p[1]), text(got), e, text(s))
		}
	}
}

// P4.4: a Split is apart, and its Sum is what was split: of all up to 3 deep, and of deep ones.
func TestSplitIsSummed(t *testing.T) {
	for _, s := range append(sound()[1:], deep()...) {
		a, b, e := Split(s)
		if e == api.ErrDeep && depth(s) == 16 && Share(s) == 1 {
			continue
		}
		if e != api.OK || depth(a) > 16 || depth(b) > 16 {
			t.Errorf("%s: %d", text(s), e)
		}
		splitHolds(t, s, a, b)
	}
}

// P4.4: what a Sum Owns is what one of both does, and not both.
func TestSumOwnsWhatEitherDoes(t *testing.T) {
	for i, a := range sound() {
		for j := range 8 {
			b := ofEighths(^i&(0b10110101<<j|0b1101>>j)&255, 8)
			s, e := Sum(a, b)
			if e != api.OK || Share(s) != Share(a)+Share(b) {
				t.Fatal(text(a), text(b), e)
			}
			for _, at := range edges() {
				if Owns(s, at) != (Owns(a, at) || Owns(b, at)) || Owns(a, at) && Owns(b, at) {
					t.Fatal(text(a), text(b), at)
				}
			}
		}
	}
}

// P4.4: identities that come of one by many Splits are all apart, own all together, and are one again by Sums in another order.
func TestManySplits(t *testing.T) {
	held := []api.Tree{one}
	for i := range 40 {
		at := i * 7 % len(held)
		a, b, e := Split(held[at])
		if e != api.OK {
			t.Fatal(text(held[at]), e)
		}
		splitHolds(t, held[at], a, b)
		held[at] = a
		held = append(held, b)
	}
	share := 0
	for i, a := range held {
		share += Share(a)
		for _, b := range held[:i] {
			if !Apart(a, b) {
				t.Error(text(a), text(b))
			}
		}
	}
	if share != 65536 {
		t.Error("share", share)
	}
	got := zero
	for i := range held {
		s, e := Sum(held[i*16%len(held)], got)
		if e != api.OK {
			t.Fatal(e)
		}
		got = s
	}
	if !same(got, one) {
		t.Error(text(got))
	}
}

// R3: answers share no memory with what was handed in, nor with one another, and that is not changed.
func TestAnswersAreNew(t *testing.T) {
	for _, s := range append(sound(), deep()...) {
		was := clone(s)
		n, _ := Norm(s)
		spoil(n)
		a, b, e := Split(s)
		b1 := clone(b)
		spoil(a)
		if !same(b, b1) {
			t.Fatal("two halves share memory:", text(was))
		}
		spoil(b)
		left, _ := Sum(s, zero)
		spoil(left)
		right, _ := Sum(zero, s)
		spoil(right)
		if !same(s, was) {
			t.Fatal("changed:", text(was), e)
		}
	}
	a, b := node(node(one, zero), zero), node(zero, node(zero, one))
	s, _ := Sum(a, b)
	spoil(s)
	if !same(a, node(node(one, zero), zero)) || !same(b, node(zero, node(zero, one))) {
		t.Error("changed by a sum:", text(a), text(b))
	}
}

// R3: where one list stands in several places of what is handed in, the answer's lists are each its own.
func TestSharedListsBecomeTwo(t *testing.T) {
	kids := []api.Tree{one, zero}
	both := node(api.Tree{Kids: kids}, api.Tree{Kids: kids})
	n, e := Norm(both)
	if e != api.OK || !same(n, both) {
		t.Fatal(text(n), e)
	}
	n.Kids[0].Kids[0] = zero
	if !same(n.Kids[1], node(one, zero)) || !same(both.Kids[0], node(one, zero)) {
		t.Error(text(n), text(both))
	}
	s, e := Sum(node(api.Tree{Kids: kids}, zero), node(zero, api.Tree{Kids: kids}))
	if e != api.OK || !same(s, both) {
		t.Fatal(text(s), e)
	}
	s.Kids[0].Kids[0] = zero
	if !same(s.Kids[1], node(one, zero)) {
		t.Error(text(s))
	}
}
