package ops_test

import (
	"math"
	"math/rand"
	"slices"
	"strings"
	"testing"

	"plexus/api"
	"plexus/ops"
)

// placeMost is the last place of a sequence, as the document has it.
const placeMost = 1 << 20

// fit is an act that fits a leaf's kind, and what it uses: n is N, t is Text, p is a place (an update's At, an op's Ref).
type fit struct {
	kind int
	act  int
	uses string
}

// fits are all acts that fit a leaf's kind, written out.
func fits() []fit {
	return []fit{
		{api.Counter, api.ActAdd, "n"},
		{api.Last, api.ActPut, "t"},
		{api.Many, api.ActPut, "t"},
		{api.Set, api.ActAdd, "t"},
		{api.Set, api.ActDel, "t"},
		{api.Seq, api.ActIns, "tp"},
		{api.Seq, api.ActDel, "p"},
	}
}

// usesOf answers what an act uses of a kind (of a Map: of what is in it), and whether it fits.
func usesOf(kind int, inner int, act int) (string, bool) {
	if kind == api.Map && act == api.ActDrop {
		return "", true
	}
	if kind == api.Map {
		kind = inner
	}
	for _, f := range fits() {
		if f.kind == kind && f.act == act {
			return f.uses, true
		}
	}
	return "", false
}

// objectMayBe is the document's account of what an update's object is named by.
func objectMayBe(u api.Update) bool {
	if u.Kind < 1 || u.Kind > 6 || len(u.Key) < 1 || len(u.Key) > 64 {
		return false
	}
	if u.Kind != 6 {
		return u.Field == "" && u.Inner == 0
	}
	return len(u.Field) >= 1 && len(u.Field) <= 64 && u.Inner >= 1 && u.Inner <= 5
}

// updateMayBe is the document's account of CheckUpdate.
func updateMayBe(u api.Update) bool {
	uses, ok := usesOf(u.Kind, u.Inner, u.Act)
	if !ok || !objectMayBe(u) {
		return false
	}
	if len(u.Text) > 64 || u.At < 0 || u.At > 1048576 || u.N < -1073741824 || u.N > 1073741824 {
		return false
	}
	return (strings.Contains(uses, "n") || u.N == 0) && (strings.Contains(uses, "t") || u.Text == "") && (strings.Contains(uses, "p") || u.At == 0)
}

// refMayBe is the document's account of a Ref, of an act that uses one.
func refMayBe(m api.Mark, act int) bool {
	p, s, i := m.Dot.Peer, m.Dot.Seq, m.Index
	if p == 0 && s == 0 && i == 0 {
		return act == api.ActIns
	}
	if i < 1 || i > 16 {
		return false
	}
	return p == 0 && s == 0 || p >= 1 && p <= 12 && s >= 1 && s <= 1048576
}

// opMayBe is the document's account of CheckOp.
func opMayBe(o api.Op) bool {
	if o.Kind == 7 {
		rest := o.Key == "" && o.Field == "" && o.Inner == 0 && o.Text == "" && o.Ref.Dot.Peer == 0 && o.Ref.Dot.Seq == 0 && o.Ref.Index == 0
		return rest && (o.Act == 1 || o.Act == 2) && o.N >= 1 && o.N <= 12
	}
	uses, _ := usesOf(o.Kind, o.Inner, o.Act)
	if strings.Contains(uses, "p") {
		return updateMayBe(updateOf(o)) && refMayBe(o.Ref, o.Act)
	}
	return updateMayBe(updateOf(o)) && o.Ref.Dot.Peer == 0 && o.Ref.Dot.Seq == 0 && o.Ref.Index == 0
}

// updateOf answers an op's update, at the place 0.
func updateOf(o api.Op) api.Update {
	return api.Update{Kind: o.Kind, Key: o.Key, Field: o.Field, Inner: o.Inner, Act: o.Act, N: o.N, Text: o.Text}
}

// opOf answers an update's op with that Ref.
func opOf(u api.Update, m api.Mark) api.Op {
	return api.Op{Kind: u.Kind, Key: u.Key, Field: u.Field, Inner: u.Inner, Act: u.Act, N: u.N, Text: u.Text, Ref: m}
}

// mk answers a Mark.
func mk(peer int, seq int, index int) api.Mark {
	return api.Mark{Dot: api.Dot{Peer: peer, Seq: seq}, Index: index}
}

// filled puts something into all that an act uses.
func filled(u api.Update, uses string) api.Update {
	if strings.Contains(uses, "n") {
		u.N = 3
	}
	if strings.Contains(uses, "t") {
		u.Text = "x"
	}
	if strings.Contains(uses, "p") {
		u.At = 2
	}
	return u
}

// good are updates that may be: each act with each kind that it fits, and of a Map with each Inner, and each drop.
func good() []api.Update {
	var l []api.Update
	for _, f := range fits() {
		l = append(l, filled(api.Update{Kind: f.kind, Key: "k", Act: f.act}, f.uses))
		l = append(l, filled(api.Update{Kind: api.Map, Key: "k", Field: "f", Inner: f.kind, Act: f.act}, f.uses))
	}
	for inner := api.Counter; inner <= api.Seq; inner++ {
		l = append(l, api.Update{Kind: api.Map, Key: "k", Field: "f", Inner: inner, Act: api.ActDrop})
	}
	return l
}

// isPlaced tells whether an update uses a place.
func isPlaced(u api.Update) bool {
	uses, _ := usesOf(u.Kind, u.Inner, u.Act)
	return strings.Contains(uses, "p")
}

// goodOps are the ops of the good updates, those of sequences with a Ref.
func goodOps() []api.Op {
	var l []api.Op
	for _, u := range good() {
		var m api.Mark
		if isPlaced(u) {
			m = mk(1, 2, 3)
		}
		l = append(l, opOf(u, m))
	}
	return l
}

// text answers a text of so many bytes.
func text(n int) string {
	return strings.Repeat("x", n)
}

// askUpdate asks CheckUpdate, and tells where it answers otherwise than wanted.
func askUpdate(t *testing.T, u api.Update, want bool) {
	t.Helper()
	if got := ops.CheckUpdate(u); got != want {
		t.Errorf("CheckUpdate(%+v) = %v, want %v", u, got, want)
	}
}

// askOp asks CheckOp likewise.
func askOp(t *testing.T, o api.Op, want bool) {
	t.Helper()
	if got := ops.CheckOp(o); got != want {
		t.Errorf("CheckOp(%+v) = %v, want %v", o, got, want)
	}
}

// askBoth asks CheckUpdate, and CheckOp of its op, with a Ref where the act uses a place.
func askBoth(t *testing.T, u api.Update, want bool) {
	t.Helper()
	askUpdate(t, u, want)
	var m api.Mark
	if isPlaced(u) {
		m = mk(1, 2, 3)
	}
	askOp(t, opOf(u, m), want)
}

// P7.1: the chapter's example.
func TestExample(t *testing.T) {
	u := api.Update{Kind: api.Counter, Key: "a", Act: api.ActAdd, N: 3}
	askBoth(t, u, true)
	u.Text = "x"
	askBoth(t, u, false)
}

// P7.1: each act with each kind that it fits, and of a Map with each Inner, is one; each drop of a Map's field is.
func TestActFits(t *testing.T) {
	l := good()
	if len(l) != 7+7+5 {
		t.Fatalf("%d updates", len(l))
	}
	for _, u := range l {
		askBoth(t, u, true)
	}
}

// P7.1: what an act uses may be zero: an empty Text, an N of 0, the place 0.
func TestUsedMayBeZero(t *testing.T) {
	for _, u := range good() {
		u.N, u.Text, u.At = 0, "", 0
		askBoth(t, u, true)
	}
}

// P7.1: every act with every kind that it does not fit is none, whatever else is there; so it is of a Map with every Inner.
func TestActDoesNotFit(t *testing.T) {
	var other []api.Update
	for kind := -2; kind <= 9; kind++ {
		for act := -2; act <= 8; act++ {
			if _, ok := usesOf(kind, 0, act); !ok && kind != api.Map {
				other = append(other, api.Update{Kind: kind, Key: "k", Act: act})
			}
			if _, ok := usesOf(api.Map, kind, act); !ok {
				other = append(other, api.Update{Kind: api.Map, Key: "k", Field: "f", Inner: kind, Act: act})
			}
		}
	}
	for _, u := range other {
		for _, uses := range []string{"", "n", "t", "p", "tp"} {
			x := filled(u, uses)
			askUpdate(t, x, false)
			askOp(t, opOf(x, api.Mark{}), false)
			askOp(t, opOf(x, mk(1, 2, 3)), false)
		}
	}
}

// P7.1: ActDrop is a Map's alone.
func TestDropIsOfMaps(t *testing.T) {
	for kind := -1; kind <= 8; kind++ {
		if kind != api.Map {
			askBoth(t, api.Update{Kind: kind, Key: "k", Act: api.ActDrop}, false)
			askBoth(t, api.Update{Kind: kind, Key: "k", Field: "f", Inner: api.Set, Act: api.ActDrop}, false)
		}
	}
	askBoth(t, api.Update{Kind: api.Map, Key: "k", Field: "f", Inner: api.Seq, Act: api.ActDrop}, true)
	askBoth(t, api.Update{Kind: api.Map, Key: "k", Field: "f", Act: api.ActDrop}, false)
	askBoth(t, api.Update{Kind: api.Map, Key: "k", Inner: api.Seq, Act: api.ActDrop}, false)
	askBoth(t, api.Update{Kind: api.Map, Key: "k", Act: api.ActDrop}, false)
}

// P7.1: an update's N goes from -MaxAmount to MaxAmount.
func TestAmounts(t *testing.T) {
	for _, u := range []api.Update{{Kind: api.Counter, Key: "a", Act: api.ActAdd}, {Kind: api.Map, Key: "a", Field: "f", Inner: api.Counter, Act: api.ActAdd}} {
		for _, n := range []int{-api.MaxAmount, -api.MaxAmount + 1, -1, 0, 1, api.MaxAmount - 1, api.MaxAmount} {
			u.N = n
			askBoth(t, u, true)
		}
		for _, n := range []int{-api.MaxAmount - 1, api.MaxAmount + 1, math.MinInt, math.MaxInt} {
			u.N = n
			askBoth(t, u, false)
		}
	}
}

// P7.1: Key has 1 to MaxText bytes; so has a Map's Field; Text has at most MaxText. Bytes are counted, whatever they are.
func TestLengths(t *testing.T) {
	wide := strings.Repeat("ä", api.MaxText/2)
	names := []struct {
		s    string
		want bool
	}{{"", false}, {"x", true}, {"\x00", true}, {"\xff", true}, {text(63), true}, {text(64), true}, {text(65), false}, {text(1000), false}, {wide, true}, {wide + "x", false}}
	for _, u := range good() {
		uses, _ := usesOf(u.Kind, u.Inner, u.Act)
		for _, n := range names {
			x := u
			x.Key = n.s
			askBoth(t, x, n.want)
			if u.Kind == api.Map {
				x = u
				x.Field = n.s
				askBoth(t, x, n.want)
			}
			if strings.Contains(uses, "t") {
				x = u
				x.Text = n.s
				askBoth(t, x, n.want || n.s == "")
			}
		}
	}
}

// P7.1: At goes from 0 to 2^20, of a Seq's acts; of all others it is 0.
func TestPlaces(t *testing.T) {
	for _, u := range good() {
		for _, at := range []int{0, 1, 2, placeMost - 1, placeMost} {
			u.At = at
			askUpdate(t, u, at == 0 || isPlaced(u))
		}
		for _, at := range []int{-1, placeMost + 1, math.MinInt, math.MaxInt} {
			u.At = at
			askUpdate(t, u, false)
		}
	}
}

// P7.1: Kind is from Counter to Map (of an op: or Roster), a Map's Inner from Counter to Seq, at their ends and beyond.
func TestKinds(t *testing.T) {
	for _, kind := range []int{math.MinInt, -1, 0, 7, 8, math.MaxInt} {
		for act := 0; act <= 6; act++ {
			for _, uses := range []string{"", "n", "t", "p", "tp"} {
				askBoth(t, filled(api.Update{Kind: kind, Key: "k", Act: act}, uses), false)
				askBoth(t, filled(api.Update{Kind: api.Map, Key: "k", Field: "f", Inner: kind, Act: act}, uses), false)
				askBoth(t, filled(api.Update{Kind: api.Map, Key: "k", Field: "f", Inner: api.Map, Act: act}, uses), false)
			}
		}
	}
	for _, kind := range []int{api.Counter, api.Seq, api.Map} {
		some := func(u api.Update) bool { return u.Kind == kind && ops.CheckUpdate(u) }
		if !slices.ContainsFunc(good(), some) {
			t.Errorf("no update of kind %d", kind)
		}
	}
}

// P7.1: each of what an update does not use is zero: one by one.
func TestUnused(t *testing.T) {
	for _, u := range good() {
		uses, _ := usesOf(u.Kind, u.Inner, u.Act)
		for _, n := range []int{-1, 1, math.MinInt, math.MaxInt} {
			if x := u; !strings.Contains(uses, "n") {
				x.N = n
				askBoth(t, x, false)
			}
			if x := u; !strings.Contains(uses, "p") {
				x.At = n
				askUpdate(t, x, false)
			}
			if x := u; u.Kind != api.Map {
				x.Inner = n
				askBoth(t, x, false)
			}
		}
		for _, s := range []string{"x", "\x00", text(64)} {
			if x := u; !strings.Contains(uses, "t") {
				x.Text = s
				askBoth(t, x, false)
			}
			if x := u; u.Kind != api.Map {
				x.Field = s
				askBoth(t, x, false)
			}
		}
	}
}

// P7.1: each part of a Ref that an act does not use is zero: one by one.
func TestUnusedRef(t *testing.T) {
	for _, o := range goodOps() {
		if isPlaced(updateOf(o)) {
			continue
		}
		askOp(t, o, true)
		for _, m := range []api.Mark{mk(1, 0, 0), mk(0, 1, 0), mk(0, 0, 1), mk(-1, 0, 0), mk(0, -1, 0), mk(0, 0, -1), mk(1, 1, 1), mk(12, 1<<20, 16)} {
			o.Ref = m
			askOp(t, o, false)
		}
	}
}

// P7.1: which Refs a Seq's acts may have: the zero one is of ActIns alone.
func TestRefs(t *testing.T) {
	most := api.MaxSeq
	may := []api.Mark{mk(0, 0, 1), mk(0, 0, 2), mk(0, 0, 15), mk(0, 0, 16), mk(1, 1, 1), mk(12, 1, 1), mk(1, most, 1), mk(12, most, 16), mk(1, 1, 16), mk(7, 9, 11)}
	not := []api.Mark{
		mk(0, 0, -1), mk(0, 0, 17), mk(1, 1, 0), mk(1, 1, -1), mk(1, 1, 17), mk(12, most, 0), mk(12, most, 17),
		mk(0, 1, 1), mk(1, 0, 1), mk(0, 1, 0), mk(1, 0, 0), mk(0, most, 1), mk(12, 0, 1),
		mk(-1, 1, 1), mk(13, 1, 1), mk(1, -1, 1), mk(1, most+1, 1), mk(-1, 0, 1), mk(0, -1, 1), mk(-1, -1, 1),
		mk(math.MinInt, 1, 1), mk(math.MaxInt, 1, 1), mk(1, math.MinInt, 1), mk(1, math.MaxInt, 1), mk(1, 1, math.MinInt), mk(1, 1, math.MaxInt),
	}
	for _, o := range goodOps() {
		if !isPlaced(updateOf(o)) {
			continue
		}
		for _, m := range may {
			o.Ref = m
			askOp(t, o, true)
		}
		for _, m := range not {
			o.Ref = m
			askOp(t, o, false)
		}
		o.Ref = api.Mark{}
		askOp(t, o, o.Act == api.ActIns)
	}
}

// P7.1: an op of the roster: ActAdd or ActDel, N from 1 to MaxPeers, all else zero. An update of it is none.
func TestRoster(t *testing.T) {
	for act := -1; act <= 7; act++ {
		for _, n := range []int{math.MinInt, -1, 0, 1, 2, 11, 12, 13, math.MaxInt} {
			o := api.Op{Kind: api.Roster, Act: act, N: n}
			askOp(t, o, (act == api.ActAdd || act == api.ActDel) && n >= 1 && n <= 12)
			askUpdate(t, updateOf(o), false)
		}
	}
	for _, act := range []int{api.ActAdd, api.ActDel} {
		o := api.Op{Kind: api.Roster, Act: act, N: 3}
		askOp(t, o, true)
		for _, spoil := range []func(*api.Op){
			func(o *api.Op) { o.Key = "k" },
			func(o *api.Op) { o.Field = "f" },
			func(o *api.Op) { o.Inner = 1 },
			func(o *api.Op) { o.Inner = -1 },
			func(o *api.Op) { o.Text = "x" },
			func(o *api.Op) { o.Ref = mk(1, 0, 0) },
			func(o *api.Op) { o.Ref = mk(0, 1, 0) },
			func(o *api.Op) { o.Ref = mk(0, 0, 1) },
			func(o *api.Op) { o.Ref = mk(1, 1, 1) },
			func(o *api.Op) { o.Kind = 8 },
			func(o *api.Op) { o.Kind = api.Map },
		} {
			x := o
			spoil(&x)
			askOp(t, x, false)
		}
	}
	askOp(t, api.Op{}, false)
	askUpdate(t, api.Update{}, false)
}

// P7.1: CheckUpdate of updates put together from all parts, held against the document's account.
func TestCheckUpdateOfAll(t *testing.T) {
	texts := []string{"", "x", text(64), text(65)}
	var may int
	for _, key := range texts {
		for _, field := range texts {
			for kind := -1; kind <= 8; kind++ {
				for inner := -1; inner <= 8; inner++ {
					for act := -1; act <= 6; act++ {
						may += askAll(t, api.Update{Kind: kind, Key: key, Field: field, Inner: inner, Act: act}, texts)
					}
				}
			}
		}
	}
	if may == 0 {
		t.Error("none may be")
	}
}

// askAll asks CheckUpdate of an update with all that an act may use, and tells how many may be.
func askAll(t *testing.T, u api.Update, texts []string) int {
	may := 0
	for _, u.Text = range texts {
		for _, u.N = range []int{0, 1, -1, -1 << 30, 1 << 30, -1<<30 - 1, 1<<30 + 1} {
			for _, u.At = range []int{0, 1, -1, 1 << 20, 1<<20 + 1} {
				want := updateMayBe(u)
				if ops.CheckUpdate(u) != want {
					t.Fatalf("CheckUpdate(%+v) = %v", u, !want)
				}
				if want {
					may++
				}
			}
		}
	}
	return may
}

// P7.1: CheckOp of ops put together from all parts, held against the document's account.
func TestCheckOpOfAll(t *testing.T) {
	var refs []api.Mark
	for _, p := range []int{-1, 0, 1, 12, 13} {
		for _, s := range []int{-1, 0, 1, 1 << 20, 1<<20 + 1} {
			for _, i := range []int{-1, 0, 1, 16, 17} {
				refs = append(refs, mk(p, s, i))
			}
		}
	}
	names := []string{"", "x", text(65)}
	for kind := -1; kind <= 8; kind++ {
		for inner := -1; inner <= 8; inner++ {
			for act := -1; act <= 6; act++ {
				for _, o := range variants(api.Op{Kind: kind, Inner: inner, Act: act}, names) {
					for _, o.Ref = range refs {
						if want := opMayBe(o); ops.CheckOp(o) != want {
							t.Fatalf("CheckOp(%+v) = %v", o, !want)
						}
					}
				}
			}
		}
	}
}

// variants answers an op with names as Key, Field and Text, and with some Ns.
func variants(o api.Op, names []string) []api.Op {
	var l []api.Op
	for _, o.Key = range names {
		for _, o.Field = range names {
			for _, o.Text = range names {
				for _, o.N = range []int{0, 1, 13} {
					l = append(l, o)
				}
			}
		}
	}
	return l
}

// before is the document's account of Before.
func before(m api.Mark, t api.Tx, index int) bool {
	if m.Index < 1 {
		return false
	}
	if m.Dot.Peer == t.Dot.Peer && m.Dot.Seq == t.Dot.Seq && m.Index < index {
		return true
	}
	return m.Dot.Peer >= 1 && m.Dot.Peer <= 12 && m.Dot.Seq >= 1 && m.Dot.Seq <= t.Deps[m.Dot.Peer]
}

// P7.2: what a transaction has seen is Before its ops, and its own ops ahead of one are.
func TestBefore(t *testing.T) {
	x := api.Tx{Dot: api.Dot{Peer: 2, Seq: 5}, Deps: api.Vec{0, 3, 4}}
	x.Deps[12] = 1
	open := api.Tx{Deps: x.Deps}
	for _, c := range []struct {
		m     api.Mark
		t     api.Tx
		index int
		want  bool
	}{
		{mk(1, 1, 1), x, 1, true}, {mk(1, 3, 1), x, 1, true}, {mk(1, 3, 16), x, 1, true}, {mk(1, 4, 1), x, 1, false}, {mk(1, 0, 1), x, 1, false},
		{mk(1, 3, 0), x, 1, false}, {mk(1, 3, -1), x, 1, false}, {mk(1, -1, 1), x, 1, false}, {mk(3, 1, 1), x, 1, false}, {mk(12, 1, 1), x, 1, true},
		{mk(13, 1, 1), x, 1, false}, {mk(0, 0, 1), x, 2, false}, {mk(0, 1, 1), x, 2, false}, {mk(-1, 1, 1), x, 2, false}, {mk(1, 3, 99), x, 0, true},
		{mk(2, 4, 9), x, 1, true}, {mk(2, 5, 1), x, 1, false}, {mk(2, 5, 1), x, 2, true}, {mk(2, 5, 2), x, 2, false}, {mk(2, 5, 3), x, 2, false},
		{mk(2, 5, 0), x, 2, false}, {mk(2, 5, -1), x, 2, false}, {mk(2, 5, 1), x, 0, false}, {mk(2, 5, 1), x, -1, false}, {mk(2, 6, 1), x, 2, false}, {mk(3, 5, 1), x, 2, false},
		{mk(0, 0, 1), open, 1, false}, {mk(0, 0, 1), open, 2, true}, {mk(0, 0, 0), open, 2, false}, {mk(1, 3, 1), open, 1, true}, {mk(0, 1, 1), open, 2, false},
	} {
		if got := ops.Before(c.m, c.t, c.index); got != c.want {
			t.Errorf("Before(%v, %v %v, %d) = %v", c.m, c.t.Dot, c.t.Deps, c.index, got)
		}
	}
}

// P7.2: Before asks no more than its words: also of a transaction that may not be, and of numbers that nobody counts with.
func TestBeforeOfAll(t *testing.T) {
	numbers := []int{math.MinInt, -1, 0, 1, 2, 12, 13, math.MaxInt}
	for _, deps := range []api.Vec{{}, {5, 1, 2}, {-1, -1}, {math.MaxInt, math.MaxInt, math.MinInt}} {
		for _, tp := range numbers {
			for _, ts := range numbers {
				x := api.Tx{Dot: api.Dot{Peer: tp, Seq: ts}, Deps: deps}
				for _, p := range numbers {
					for _, s := range numbers {
						for _, i := range numbers {
							for _, index := range numbers {
								m := mk(p, s, i)
								if want := before(m, x, index); ops.Before(m, x, index) != want {
									t.Fatalf("Before(%v, %v %v, %d) = %v", m, x.Dot, deps, index, !want)
								}
							}
						}
					}
				}
			}
		}
	}
}

// P7.2: the ops of a transaction, its Time and whether it may be are nothing to Before.
func TestBeforeAsksNoOps(t *testing.T) {
	x := api.Tx{Dot: api.Dot{Peer: 1, Seq: 2}, Deps: api.Vec{0, 1}}
	y := x
	y.Time, y.Ops = -5, []api.Op{{Kind: 99}}
	for _, m := range []api.Mark{mk(1, 1, 1), mk(1, 2, 1), mk(1, 2, 9), mk(2, 1, 1)} {
		for index := range 12 {
			if ops.Before(m, x, index) != ops.Before(m, y, index) {
				t.Errorf("Before(%v, .., %d) hangs on the ops", m, index)
			}
		}
	}
}

// P7.2: Less goes by Peer, then Seq, then Index: it puts all Marks in one order.
func TestLess(t *testing.T) {
	numbers := []int{math.MinInt, -1, 0, 1, 2, math.MaxInt}
	var l []api.Mark
	for _, p := range numbers {
		for _, s := range numbers {
			for _, i := range numbers {
				l = append(l, mk(p, s, i))
			}
		}
	}
	for i, a := range l {
		for j, b := range l {
			if ops.Less(a, b) != (i < j) {
				t.Fatalf("Less(%v, %v) = %v", a, b, i >= j)
			}
		}
	}
}

// ins answers an op that inserts behind m.
func ins(m api.Mark) api.Op {
	return api.Op{Kind: api.Seq, Key: "s", Act: api.ActIns, Text: "x", Ref: m}
}

// del answers an op that takes m out of a sequence in a map.
func del(m api.Mark) api.Op {
	return api.Op{Kind: api.Map, Key: "s", Field: "f", Inner: api.Seq, Act: api.ActDel, Ref: m}
}

// add answers an op that counts.
func add(n int) api.Op {
	return api.Op{Kind: api.Counter, Key: "a", Act: api.ActAdd, N: n}
}

// several answers so many ops.
func several(n int) []api.Op {
	var l []api.Op
	for i := range n {
		l = append(l, add(i))
	}
	return l
}

// tx answers a transaction that may be, with these ops.
func tx(l ...api.Op) api.Tx {
	return api.Tx{Dot: api.Dot{Peer: 2, Seq: 5}, Deps: api.Vec{0, 3, 4}, Time: 9, Ops: l}
}

// askTx asks CheckTx.
func askTx(t *testing.T, x api.Tx, want bool) {
	t.Helper()
	if got := ops.CheckTx(x); got != want {
		t.Errorf("CheckTx(%+v) = %v, want %v", x, got, want)
	}
}

// askOpen asks CheckOpen.
func askOpen(t *testing.T, x api.Tx, want bool) {
	t.Helper()
	if got := ops.CheckOpen(x); got != want {
		t.Errorf("CheckOpen(%+v) = %v, want %v", x, got, want)
	}
}

// askTwo asks CheckTx, and CheckOpen of the same with the zero Dot.
func askTwo(t *testing.T, x api.Tx, want bool) {
	t.Helper()
	askTx(t, x, want)
	x.Dot = api.Dot{}
	askOpen(t, x, want)
}

// P7.2: a transaction's Dot, at and beyond the ends of its Peer and its Seq; an open one's is zero, whole.
func TestTxDot(t *testing.T) {
	numbers := []int{math.MinInt, -1, 0, 1, 2, 11, 12, 13, 1<<20 - 1, 1 << 20, 1<<20 + 1, math.MaxInt}
	for _, p := range numbers {
		for _, s := range numbers {
			x := api.Tx{Dot: api.Dot{Peer: p, Seq: s}, Time: 1, Ops: several(1)}
			askTx(t, x, p >= 1 && p <= 12 && s >= 1 && s <= 1<<20)
			askOpen(t, x, p == 0 && s == 0)
		}
	}
}

// P7.2: Deps has less than Seq of the own Peer, and need not have all that is ahead; of an open one that is not asked.
func TestTxDeps(t *testing.T) {
	for own, want := range map[int]bool{0: true, 1: true, 3: true, 4: true, 5: false, 6: false, 1 << 20: false} {
		x := tx(several(1)...)
		x.Deps[2] = own
		askTx(t, x, want)
		x.Dot = api.Dot{}
		askOpen(t, x, true)
	}
	x := tx(several(1)...)
	x.Deps[1], x.Deps[12] = api.MaxSeq, api.MaxSeq
	askTwo(t, x, true)
	x.Dot = api.Dot{Peer: 1, Seq: api.MaxSeq}
	askTx(t, x, false)
	x.Deps[1]--
	askTx(t, x, true)
}

// P7.2: Deps that do not Check are refused, of an open one too.
func TestTxDepsCheck(t *testing.T) {
	for p := range api.MaxPeers + 1 {
		for _, n := range []int{math.MinInt, -1, 1<<20 + 1, math.MaxInt} {
			x := tx(several(1)...)
			x.Deps[p] = n
			askTwo(t, x, false)
		}
	}
	x := tx(several(1)...)
	x.Deps[0] = 1
	askTwo(t, x, false)
}

// P7.2: Time is from 1 to MaxTime, of an open one too.
func TestTxTime(t *testing.T) {
	for n, want := range map[int]bool{math.MinInt: false, -1: false, 0: false, 1: true, 2: true, 1<<40 - 1: true, 1 << 40: true, 1<<40 + 1: false, math.MaxInt: false} {
		x := tx(several(2)...)
		x.Time = n
		askTwo(t, x, want)
	}
}

// P7.2: there are 1 to MaxOps ops; an open one may have none.
func TestTxCount(t *testing.T) {
	for n, want := range map[int]bool{0: false, 1: true, 2: true, 15: true, 16: true, 17: false, 18: false, 5000: false} {
		x := tx(several(n)...)
		askTx(t, x, want)
		x.Dot = api.Dot{}
		askOpen(t, x, want || n == 0)
	}
	x := tx()
	x.Ops = several(20)[:0]
	askTx(t, x, false)
	x.Dot = api.Dot{}
	askOpen(t, x, true)
	x.Ops = several(20)[:16]
	askOpen(t, x, true)
}

// P7.2: each op Checks, wherever it stands; those of the roster may be there.
func TestTxOps(t *testing.T) {
	for _, o := range goodOps() {
		x := tx(o, api.Op{Kind: api.Roster, Act: api.ActDel, N: 12}, o)
		askTwo(t, x, true)
	}
	for _, bad := range []api.Op{{}, {Kind: api.Counter, Act: api.ActAdd}, {Kind: api.Roster, Act: api.ActAdd}, {Kind: api.Counter, Key: "a", Act: api.ActAdd, Text: "x"}, del(api.Mark{}), ins(mk(1, 1, 17)), ins(mk(1, 1, 0)), ins(mk(0, 1, 1))} {
		for n := 1; n <= 16; n++ {
			for at := range n {
				x := tx(several(n)...)
				x.Ops[at] = bad
				askTwo(t, x, false)
			}
		}
	}
}

// P7.2: a Ref that the Deps just have, and just have not.
func TestTxRefSeen(t *testing.T) {
	for _, op := range []func(api.Mark) api.Op{ins, del} {
		for m, want := range map[api.Mark]bool{
			mk(1, 1, 1): true, mk(1, 3, 1): true, mk(1, 3, 16): true, mk(1, 4, 1): false, mk(1, 1<<20, 1): false,
			mk(2, 4, 1): true, mk(2, 6, 1): false, mk(3, 1, 1): false, mk(12, 1, 1): false,
		} {
			askTwo(t, tx(op(m)), want)
			askTwo(t, tx(add(1), ins(api.Mark{}), op(m)), want)
			askTwo(t, tx(op(m), add(1)), want)
		}
	}
}

// P7.2: a Ref to an op at its own place, to the one ahead of it, and to one behind it: by the transaction's Dot, of an open one by the zero Dot, and by no other.
func TestTxRefOwn(t *testing.T) {
	for _, op := range []func(api.Mark) api.Op{ins, del} {
		for place := 1; place <= 16; place++ {
			for index := 1; index <= 16; index++ {
				named, own := tx(several(16)...), tx(several(16)...)
				named.Ops[place-1] = op(mk(2, 5, index))
				own.Ops[place-1] = op(mk(0, 0, index))
				askTx(t, named, index < place)
				askTx(t, own, false)
				named.Dot, own.Dot = api.Dot{}, api.Dot{}
				askOpen(t, named, false)
				askOpen(t, own, index < place)
			}
		}
	}
}

// P7.2: an op may refer to one of its own transaction, whatever that one is: only what is Before is asked.
func TestTxRefToAnything(t *testing.T) {
	askTx(t, tx(add(1), ins(mk(2, 5, 1))), true)
	askTx(t, tx(ins(api.Mark{}), ins(mk(2, 5, 1)), del(mk(2, 5, 2)), ins(mk(1, 3, 9))), true)
	askTx(t, tx(ins(mk(2, 5, 2)), ins(api.Mark{})), false)
}

// refsOfAll are Refs of all forms.
func refsOfAll() []api.Mark {
	var l []api.Mark
	numbers := []int{math.MinInt, -1, 0, 1, 7, 17, math.MaxInt}
	for _, p := range numbers {
		for _, s := range numbers {
			for _, i := range numbers {
				l = append(l, mk(p, s, i))
			}
		}
	}
	return l
}

// P7.3: Resolve gives the Dot to each Ref with a zero Dot and an Index that is not 0; all else stays as it is.
func TestResolve(t *testing.T) {
	for _, d := range []api.Dot{{}, {Peer: 3, Seq: 8}, {Peer: -1, Seq: math.MaxInt}, {Seq: 1}} {
		var l, want []api.Op
		for i, m := range refsOfAll() {
			o := api.Op{Kind: i, Key: "k", Field: text(i % 70), Inner: -i, Act: i % 7, N: i * i, Text: text(i % 80), Ref: m}
			l = append(l, o)
			if m.Dot.Peer == 0 && m.Dot.Seq == 0 && m.Index != 0 {
				o.Ref.Dot = d
			}
			want = append(want, o)
		}
		kept := slices.Clone(l)
		if got := ops.Resolve(l, d); !slices.Equal(got, want) {
			t.Errorf("Resolve by %v", d)
		}
		if !slices.Equal(l, kept) {
			t.Errorf("Resolve by %v changed what it was given", d)
		}
	}
}

// P7.3: Resolve of no ops.
func TestResolveNothing(t *testing.T) {
	for _, l := range [][]api.Op{nil, {}, make([]api.Op, 3)[:0]} {
		if got := ops.Resolve(l, api.Dot{Peer: 1, Seq: 1}); len(got) != 0 {
			t.Errorf("Resolve of nothing: %v", got)
		}
	}
}

// P7.3, P7.2: an open transaction that Checks, Resolved by a Dot that its Deps have not, is one that Checks.
func TestResolveMakesTx(t *testing.T) {
	x := tx(ins(api.Mark{}), ins(mk(0, 0, 1)), del(mk(0, 0, 2)), ins(mk(1, 3, 2)), add(4))
	d := x.Dot
	x.Dot = api.Dot{}
	askOpen(t, x, true)
	y := x
	y.Dot = d
	askTx(t, y, false)
	y.Ops = ops.Resolve(x.Ops, d)
	askTx(t, y, true)
	y.Dot = api.Dot{}
	askOpen(t, y, false)
}

// R3: what Resolve answers is new memory: neither writes into the other one, nor into the room behind it.
func TestResolveIsNew(t *testing.T) {
	for n := range 4 {
		room := append(several(n), add(90), add(91), add(92))
		kept := slices.Clone(room)
		got := ops.Resolve(room[:n], api.Dot{Peer: 1, Seq: 1})
		for i := range got {
			got[i] = add(77)
		}
		_ = append(got, add(78), add(79))
		if !slices.Equal(room, kept) {
			t.Errorf("with %d ops: what was given is changed", n)
		}
		again := ops.Resolve(room[:n], api.Dot{Peer: 1, Seq: 1})
		for i := range room {
			room[i] = add(66)
		}
		if !slices.Equal(again, kept[:n]) {
			t.Errorf("with %d ops: the answer is changed", n)
		}
	}
}

// R3: Checks change nothing of a transaction's ops, nor of the room behind them.
func TestChecksChangeNothing(t *testing.T) {
	room := []api.Op{ins(api.Mark{}), ins(mk(2, 5, 1)), del(mk(0, 0, 1)), add(5), {Kind: api.Roster, Act: api.ActAdd, N: 1}}
	kept := slices.Clone(room)
	for n := range len(room) + 1 {
		x := tx(room[:n]...)
		ops.CheckTx(x)
		x.Dot = api.Dot{}
		ops.CheckOpen(x)
		ops.Before(mk(1, 1, 1), x, n)
	}
	if !slices.Equal(room, kept) {
		t.Error("the ops are changed")
	}
}

// R1: no call panics, whatever the numbers are.
func TestExtremes(t *testing.T) {
	ends := []int{math.MinInt, math.MinInt + 1, math.MaxInt - 1, math.MaxInt}
	for _, n := range ends {
		o := api.Op{Kind: n, Key: "k", Inner: n, Act: n, N: n, Ref: mk(n, n, n)}
		askOp(t, o, false)
		u := updateOf(o)
		u.At = n
		askUpdate(t, u, false)
		askTx(t, api.Tx{Dot: api.Dot{Peer: n, Seq: n}, Time: n, Ops: []api.Op{o}}, false)
		askTx(t, api.Tx{Dot: api.Dot{Peer: n, Seq: 1}, Time: 1, Ops: several(1)}, false)
		askOpen(t, api.Tx{Dot: api.Dot{Peer: n}, Time: 1}, false)
		if ops.Before(mk(n, n, n), api.Tx{}, n) || ops.Less(mk(n, n, n), mk(n, n, n)) {
			t.Errorf("at %d", n)
		}
	}
	askTx(t, api.Tx{}, false)
	askOpen(t, api.Tx{}, false)
}

// history is what peers commit and get from each other: all transactions, and what each peer has delivered.
type history struct {
	txs []api.Tx
	has [api.MaxPeers + 1]api.Vec
	got [api.MaxPeers + 1][]int // the places in txs of what a peer has delivered
}

// commit has a peer commit a transaction of some ops, each of which refers to one that it has seen, if there is any.
func (h *history) commit(r *rand.Rand, p int) {
	x := api.Tx{Dot: api.Dot{Peer: p, Seq: h.has[p][p] + 1}, Deps: h.has[p], Time: len(h.txs) + 1}
	for i := range 1 + r.Intn(3) {
		var ref api.Mark
		if i > 0 && r.Intn(2) == 0 {
			ref = api.Mark{Dot: x.Dot, Index: 1 + r.Intn(i)}
		} else if len(h.got[p]) > 0 {
			seen := h.txs[h.got[p][r.Intn(len(h.got[p]))]]
			ref = api.Mark{Dot: seen.Dot, Index: 1 + r.Intn(len(seen.Ops))}
		}
		x.Ops = append(x.Ops, ins(ref))
	}
	h.txs = append(h.txs, x)
	h.deliver(p, len(h.txs)-1)
}

// deliver has a peer take in a transaction, if it has all that this one has seen, and not itself.
func (h *history) deliver(p int, place int) {
	x := h.txs[place]
	for q := 1; q <= api.MaxPeers; q++ {
		if x.Deps[q] > h.has[p][q] {
			return
		}
	}
	if h.has[p][x.Dot.Peer] == x.Dot.Seq-1 {
		h.has[p][x.Dot.Peer]++
		h.got[p] = append(h.got[p], place)
	}
}

// made answers a history of some peers and so many steps.
func made(seed int64, peers int, steps int) *history {
	r, h := rand.New(rand.NewSource(seed)), &history{}
	for range steps {
		p := 1 + r.Intn(peers)
		if len(h.txs) == 0 || r.Intn(3) == 0 {
			h.commit(r, p)
		} else {
			h.deliver(p, r.Intn(len(h.txs)))
		}
	}
	return h
}

// P7.4: of two ops of transactions that peers commit, at most one is Before the other one; none is Before itself; what is Before one that is Before a third one is Before that, too.
func TestOneDirection(t *testing.T) {
	type placed struct {
		mark api.Mark
		tx   api.Tx
	}
	for seed := range int64(12) {
		h := made(seed, 2+int(seed)%5, 90)
		var all []placed
		for _, x := range h.txs {
			askTx(t, x, true)
			for i := range x.Ops {
				all = append(all, placed{api.Mark{Dot: x.Dot, Index: i + 1}, x})
			}
		}
		is := func(a placed, b placed) bool { return ops.Before(a.mark, b.tx, b.mark.Index) }
		for _, a := range all {
			for _, b := range all {
				if is(a, b) && is(b, a) {
					t.Fatalf("%v and %v are Before each other", a.mark, b.mark)
				}
				if !is(a, b) {
					continue
				}
				for _, c := range all {
					if is(b, c) && !is(a, c) {
						t.Fatalf("%v is Before %v, that Before %v, but not the first one Before it", a.mark, b.mark, c.mark)
					}
				}
			}
		}
	}
}

// P7.4: so it is of all small transactions that Check, of which one that has seen the other one has seen what that one has.
func TestOneDirectionOfSmall(t *testing.T) {
	var l []api.Tx
	for p := 1; p <= 2; p++ {
		for s := 1; s <= 3; s++ {
			for a := range 4 {
				for b := range 4 {
					x := api.Tx{Dot: api.Dot{Peer: p, Seq: s}, Deps: api.Vec{0, a, b}, Time: 1, Ops: several(2)}
					if want := x.Deps[p] < s; ops.CheckTx(x) != want {
						t.Fatalf("CheckTx(%v %v) = %v", x.Dot, x.Deps, !want)
					} else if want {
						l = append(l, x)
					}
				}
			}
		}
	}
	for _, x := range l {
		for _, y := range l {
			if x.Dot == y.Dot && x.Deps != y.Deps || !closed(x, y) || !closed(y, x) {
				continue
			}
			for i := 1; i <= 2; i++ {
				for j := 1; j <= 2; j++ {
					if ops.Before(api.Mark{Dot: x.Dot, Index: i}, y, j) && ops.Before(api.Mark{Dot: y.Dot, Index: j}, x, i) {
						t.Fatalf("%v %v and %v %v are Before each other", x.Dot, x.Deps, y.Dot, y.Deps)
					}
				}
			}
		}
	}
}

// closed tells whether y, if it has seen x, has seen all that x has.
func closed(x api.Tx, y api.Tx) bool {
	if x.Dot.Seq > y.Deps[x.Dot.Peer] {
		return true
	}
	for p := range x.Deps {
		if x.Deps[p] > y.Deps[p] {
			return false
		}
	}
	return true
}
