package prepare_test

import (
	"cmp"
	"fmt"
	"math"
	"slices"
	"strings"
	"testing"

	"plexus/api"
	"plexus/object"
	"plexus/ops"
	"plexus/prepare"
)

// The numbers of the document: bytes of a text, the last place of a sequence.
const (
	textMost  = 64
	placeMost = 1 << 20
)

// home is where a sequence lies: it is an object itself, or a field of a map.
type home struct {
	kind  int
	field string
	inner int
}

// homes are both.
func homes() []home {
	return []home{{kind: 5}, {kind: 6, field: "f", inner: 5}}
}

// mk answers a Mark.
func mk(peer int, seq int, index int) api.Mark {
	return api.Mark{Dot: api.Dot{Peer: peer, Seq: seq}, Index: index}
}

// text answers a text of so many bytes.
func text(n int) string {
	return strings.Repeat("x", n)
}

// ins answers the op that puts a text behind an element of the sequence k there.
func (h home) ins(s string, ref api.Mark) api.Op {
	return api.Op{Kind: h.kind, Key: "k", Field: h.field, Inner: h.inner, Act: 4, Text: s, Ref: ref}
}

// del answers the op that takes an element away.
func (h home) del(ref api.Mark) api.Op {
	return api.Op{Kind: h.kind, Key: "k", Field: h.field, Inner: h.inner, Act: 2, Ref: ref}
}

// insAt answers the update that asks for a text at a place.
func (h home) insAt(at int, s string) api.Update {
	return api.Update{Kind: h.kind, Key: "k", Field: h.field, Inner: h.inner, Act: 4, Text: s, At: at}
}

// delAt answers the update that asks for the removal of what is at a place.
func (h home) delAt(at int) api.Update {
	return api.Update{Kind: h.kind, Key: "k", Field: h.field, Inner: h.inner, Act: 2, At: at}
}

// tx answers a transaction.
func tx(peer int, seq int, time int, deps api.Vec, l ...api.Op) api.Tx {
	return api.Tx{Dot: api.Dot{Peer: peer, Seq: seq}, Time: time, Deps: deps, Ops: l}
}

// behind answers an object behind all ops of these transactions.
func behind(o api.Object, l ...api.Tx) api.Object {
	for _, x := range l {
		for i := range x.Ops {
			o = object.Do(o, x, i+1)
		}
	}
	return o
}

// empty answers a new object of a kind, with the key k.
func empty(kind int) api.Object {
	o, _ := object.New(kind, "k")
	return o
}

// history are transactions of four peers that make, and remove, elements: behind all of them z, a, d, f, c are there; b and e are gone, and f and c stand behind b.
func (h home) history() []api.Tx {
	a, b := mk(1, 1, 1), mk(1, 1, 2)
	seen := api.Vec{0, 1, 1, 1}
	return []api.Tx{
		tx(1, 1, 1, api.Vec{}, h.ins("a", api.Mark{}), h.ins("b", a), h.ins("c", b)),
		tx(2, 1, 2, api.Vec{0, 1}, h.ins("d", a)),
		tx(3, 1, 2, api.Vec{0, 1}, h.ins("e", a)),
		tx(2, 2, 3, seen, h.del(b)),
		tx(3, 2, 3, seen, h.ins("f", b)),
		tx(4, 1, 1, api.Vec{}, h.ins("z", api.Mark{})),
		tx(4, 2, 4, api.Vec{0, 1, 2, 2, 1}, h.del(mk(3, 1, 1))),
	}
}

// historyCut is a cut that has the whole history.
func historyCut() api.Vec {
	return api.Vec{0, 1, 2, 2, 2}
}

// historyThere are the marks of the elements that are there behind the history: z, a, d, f, c.
func historyThere() []api.Mark {
	return []api.Mark{mk(4, 1, 1), mk(1, 1, 1), mk(2, 1, 1), mk(3, 2, 1), mk(1, 1, 3)}
}

// made answers the sequence behind the history; a map has other fields beside it: of the same name and another kind, of another name and the same kind.
func (h home) made() api.Object {
	o := behind(empty(h.kind), h.history()...)
	if h.kind != 6 {
		return o
	}
	other := home{kind: 6, field: "e", inner: 5}
	third := home{kind: 6, field: "ff", inner: 5}
	return behind(o,
		tx(5, 1, 9, api.Vec{}, other.ins("p", api.Mark{}), other.ins("q", api.Mark{})),
		tx(6, 1, 9, api.Vec{}, third.ins("r", api.Mark{}), api.Op{Kind: 6, Key: "k", Field: "f", Inner: 4, Act: 1, Text: "s"}, api.Op{Kind: 6, Key: "k", Field: "f", Inner: 1, Act: 1, N: 3}))
}

// removed answers a sequence with two elements, both of which are removed.
func (h home) removed() api.Object {
	return behind(empty(h.kind),
		tx(1, 1, 1, api.Vec{}, h.ins("a", api.Mark{}), h.ins("b", mk(1, 1, 1))),
		tx(2, 1, 2, api.Vec{0, 1}, h.del(mk(1, 1, 1)), h.del(mk(1, 1, 2))))
}

// standing is the document's account of the order of elements, told plainly: the marks of those that are there.
func standing(l []api.Elem) []api.Mark {
	var all []api.Mark
	var follow func(ref api.Mark)
	follow = func(ref api.Mark) {
		var kids []api.Elem
		for _, e := range l {
			if e.Ref == ref {
				kids = append(kids, e)
			}
		}
		slices.SortFunc(kids, func(a api.Elem, b api.Elem) int {
			return cmp.Or(cmp.Compare(b.Time, a.Time), cmp.Compare(b.Mark.Dot.Peer, a.Mark.Dot.Peer), cmp.Compare(b.Mark.Dot.Seq, a.Mark.Dot.Seq), cmp.Compare(b.Mark.Index, a.Mark.Index))
		})
		for _, e := range kids {
			if len(e.Gone) == 0 {
				all = append(all, e.Mark)
			}
			follow(e.Mark)
		}
	}
	follow(api.Mark{})
	return all
}

// elems answers the elements of the sequence that an update means.
func elems(o api.Object, u api.Update) []api.Elem {
	if o.Kind == 5 {
		return o.Cell.Elems
	}
	for _, f := range o.Fields {
		if f.Name == u.Field && f.Cell.Kind == 5 {
			return f.Cell.Elems
		}
	}
	return nil
}

// like answers an op with all that an update has but At, and without a Ref.
func like(u api.Update) api.Op {
	return api.Op{Kind: u.Kind, Key: u.Key, Field: u.Field, Inner: u.Inner, Act: u.Act, N: u.N, Text: u.Text}
}

// wanted is the document's account of Op.
func wanted(o api.Object, u api.Update) (api.Op, api.Errno) {
	if !ops.CheckUpdate(u) || !object.Check(o) || o.Kind != u.Kind || o.Key != u.Key {
		return api.Op{}, 2
	}
	x := like(u)
	isSeq := u.Kind == 5 || u.Kind == 6 && u.Inner == 5
	if !isSeq || u.Act == 5 || u.Act == 4 && u.At == 0 {
		return x, 0
	}
	place := u.At
	if u.Act == 4 {
		place = u.At - 1
	}
	there := standing(elems(o, u))
	if place >= len(there) {
		return api.Op{}, 7
	}
	x.Ref = there[place]
	return x, 0
}

// askOp asks Op, and what follows: an op that is answered without an error Checks; beside an error it is the zero one.
func askOp(t *testing.T, o api.Object, u api.Update, want api.Op, wantErr api.Errno) {
	t.Helper()
	got, err := prepare.Op(o, u)
	if got != want || err != wantErr {
		t.Errorf("Op(%+v, %+v) = %+v, %d, want %+v, %d", o, u, got, err, want, wantErr)
	}
	if err == 0 && !ops.CheckOp(got) {
		t.Errorf("Op(%+v, %+v) = %+v, which may not be", o, u, got)
	}
	if err != 0 && got != (api.Op{}) {
		t.Errorf("Op(%+v, %+v) = %+v beside %d", o, u, got, err)
	}
}

// askError asks Op where there is an error.
func askError(t *testing.T, o api.Object, u api.Update, want api.Errno) {
	t.Helper()
	askOp(t, o, u, api.Op{}, want)
}

// askRef asks Op where the op is the update's, with that Ref.
func askRef(t *testing.T, o api.Object, u api.Update, ref api.Mark) {
	t.Helper()
	x := like(u)
	x.Ref = ref
	askOp(t, o, u, x, 0)
}

// later answers a transaction of one op that has seen all that others may have done, and is later than all of it.
func later(x api.Op) api.Tx {
	var deps api.Vec
	for p := 1; p < 12; p++ {
		deps[p] = api.MaxSeq
	}
	return tx(12, 1, api.MaxTime, deps, x)
}

// texts answers what is read of the sequence that lies there.
func (h home) texts(o api.Object) []string {
	v := object.Read(o)
	if h.kind == 5 {
		return v.Texts
	}
	for _, f := range v.Fields {
		if f.Name == h.field && f.Value.Kind == 5 {
			return f.Value.Texts
		}
	}
	return nil
}

// others answers what is read of all that is not the sequence.
func (h home) others(o api.Object) string {
	var all []api.Named
	for _, f := range object.Read(o).Fields {
		if f.Name != h.field || f.Value.Kind != h.inner {
			all = append(all, f)
		}
	}
	return fmt.Sprint(all)
}

// askDoes asks that an update's op does what was asked: behind it these texts are read, and all else is as it was.
func (h home) askDoes(t *testing.T, o api.Object, u api.Update, want []string) {
	t.Helper()
	x, err := prepare.Op(o, u)
	done := later(x)
	if err != 0 || !ops.CheckTx(done) {
		t.Errorf("Op(%+v, %+v) = %+v, %d", o, u, x, err)
	}
	got := object.Do(o, done, 1)
	if !slices.Equal(h.texts(got), want) {
		t.Errorf("%+v upon %q: %q, want %q", u, h.texts(o), h.texts(got), want)
	}
	if h.others(got) != h.others(o) {
		t.Errorf("%+v: %s, was %s", u, h.others(got), h.others(o))
	}
}

// askAllPlaces asks of each place of a sequence, with these elements there, both acts: what they refer to, and what they do; and of those behind the end.
func (h home) askAllPlaces(t *testing.T, o api.Object, there []api.Mark) {
	t.Helper()
	was := h.texts(o)
	if len(was) != len(there) {
		t.Fatalf("%q are there, of %v", was, there)
	}
	askRef(t, o, h.insAt(0, "new"), api.Mark{})
	for n := range len(there) + 1 {
		h.askDoes(t, o, h.insAt(n, "new"), slices.Insert(slices.Clone(was), n, "new"))
		if n > 0 {
			askRef(t, o, h.insAt(n, "new"), there[n-1])
		}
		if n < len(there) {
			askRef(t, o, h.delAt(n), there[n])
			h.askDoes(t, o, h.delAt(n), slices.Delete(slices.Clone(was), n, n+1))
		}
	}
	for _, n := range []int{0, 1, 2, 100, placeMost - len(there) - 2, placeMost - len(there) - 1} {
		askError(t, o, h.insAt(len(there)+1+n, "new"), 7)
		askError(t, o, h.delAt(len(there)+n), 7)
	}
	askError(t, o, h.delAt(placeMost), 7)
	for _, n := range []int{placeMost + 1, math.MaxInt, -1, math.MinInt} {
		askError(t, o, h.insAt(n, "new"), 2)
		askError(t, o, h.delAt(n), 2)
	}
}

// P15.1: the chapter's example.
func TestExample(t *testing.T) {
	u := api.Update{Kind: 5, Key: "k", Act: 4, Text: "x"}
	askOp(t, empty(5), u, api.Op{Kind: 5, Key: "k", Act: 4, Text: "x"}, 0)
	u.At = 1
	askOp(t, empty(5), u, api.Op{}, 7)
}

// good are updates that may be: of every kind each act that chapter 7 names for it, and of maps with every inner kind, drops too.
func good() []api.Update {
	acts := []api.Update{
		{Kind: 1, Act: 1, N: 3}, {Kind: 1, Act: 1, N: -1 << 30}, {Kind: 1, Act: 1, N: 1 << 30}, {Kind: 1, Act: 1},
		{Kind: 2, Act: 3, Text: "x"}, {Kind: 2, Act: 3}, {Kind: 3, Act: 3, Text: "x"}, {Kind: 3, Act: 3},
		{Kind: 4, Act: 1, Text: "x"}, {Kind: 4, Act: 1}, {Kind: 4, Act: 2, Text: "x"}, {Kind: 4, Act: 2},
		{Kind: 5, Act: 4, Text: "x"}, {Kind: 5, Act: 4}, {Kind: 5, Act: 4, Text: "x", At: 2}, {Kind: 5, Act: 2}, {Kind: 5, Act: 2, At: 1},
	}
	var l []api.Update
	for _, u := range acts {
		u.Key = "k"
		l = append(l, u)
		u.Kind, u.Field, u.Inner = 6, "f", u.Kind
		l = append(l, u)
	}
	for inner := 1; inner <= 5; inner++ {
		l = append(l, api.Update{Kind: 6, Key: "k", Field: "f", Inner: inner, Act: 5})
	}
	return l
}

// filled answers an object of a kind with the key k and something in it, in a map in the fields f of every kind.
func filled(kind int) api.Object {
	o := empty(kind)
	for p, u := range good() {
		x := like(u)
		o = behind(o, tx(1+p%11, 1+p, 1+p, api.Vec{}, x))
	}
	return o
}

// P15.1: of each update that may be and means no element the op is all that the update has but At, whatever is in the object; it Checks, and is done.
func TestOpIsTheUpdates(t *testing.T) {
	count := 0
	for _, u := range good() {
		if u.At > 0 || u.Act == 2 && prepare.Leaf(u) == 5 {
			continue
		}
		count++
		for _, o := range []api.Object{empty(u.Kind), filled(u.Kind)} {
			askRef(t, o, u, api.Mark{})
		}
	}
	if count != 14+14+5 {
		t.Errorf("%d updates", count)
	}
	askOp(t, empty(1), api.Update{Kind: 1, Key: "k", Act: 1, N: 3}, api.Op{Kind: 1, Key: "k", Act: 1, N: 3}, 0)
	askOp(t, empty(2), api.Update{Kind: 2, Key: "k", Act: 3, Text: "x"}, api.Op{Kind: 2, Key: "k", Act: 3, Text: "x"}, 0)
	askOp(t, empty(4), api.Update{Kind: 4, Key: "k", Act: 2, Text: "x"}, api.Op{Kind: 4, Key: "k", Act: 2, Text: "x"}, 0)
	askOp(t, empty(6), api.Update{Kind: 6, Key: "k", Field: "f", Inner: 1, Act: 1, N: -7}, api.Op{Kind: 6, Key: "k", Field: "f", Inner: 1, Act: 1, N: -7}, 0)
	askOp(t, empty(6), api.Update{Kind: 6, Key: "k", Field: "f", Inner: 5, Act: 5}, api.Op{Kind: 6, Key: "k", Field: "f", Inner: 5, Act: 5}, 0)
	askOp(t, homes()[1].made(), api.Update{Kind: 6, Key: "k", Field: "f", Inner: 4, Act: 2, Text: "s"}, api.Op{Kind: 6, Key: "k", Field: "f", Inner: 4, Act: 2, Text: "s"}, 0)
}

// P15.2: what updates of the other kinds ask is done by their ops.
func TestOpDoesWhatWasAsked(t *testing.T) {
	value := func(o api.Object, u api.Update) string {
		x, err := prepare.Op(o, u)
		if err != 0 {
			t.Errorf("Op(%+v, %+v): %d", o, u, err)
		}
		v := object.Read(object.Do(o, later(x), 1))
		if u.Kind == 6 {
			return fmt.Sprint(v.Fields)
		}
		return fmt.Sprint(v.N, v.Texts)
	}
	set := behind(empty(4), tx(1, 1, 1, api.Vec{}, api.Op{Kind: 4, Key: "k", Act: 1, Text: "y"}, api.Op{Kind: 4, Key: "k", Act: 1, Text: "x"}))
	field := behind(empty(6), tx(1, 1, 1, api.Vec{}, api.Op{Kind: 6, Key: "k", Field: "f", Inner: 1, Act: 1, N: 2}))
	for _, c := range []struct {
		o    api.Object
		u    api.Update
		want string
	}{
		{empty(1), api.Update{Kind: 1, Key: "k", Act: 1, N: 3}, "3 []"},
		{empty(2), api.Update{Kind: 2, Key: "k", Act: 3, Text: "x"}, "0 [x]"},
		{empty(3), api.Update{Kind: 3, Key: "k", Act: 3, Text: "x"}, "0 [x]"},
		{empty(4), api.Update{Kind: 4, Key: "k", Act: 1, Text: "x"}, "0 [x]"},
		{set, api.Update{Kind: 4, Key: "k", Act: 2, Text: "x"}, "0 [y]"},
		{empty(5), api.Update{Kind: 5, Key: "k", Act: 4, Text: "x"}, "0 [x]"},
		{field, api.Update{Kind: 6, Key: "k", Field: "f", Inner: 1, Act: 1, N: 3}, "[{f {1 5 [] []}}]"},
		{field, api.Update{Kind: 6, Key: "k", Field: "f", Inner: 1, Act: 5}, "[]"},
		{field, api.Update{Kind: 6, Key: "k", Field: "f", Inner: 2, Act: 5}, "[{f {1 2 [] []}}]"},
		{empty(6), api.Update{Kind: 6, Key: "k", Field: "f", Inner: 5, Act: 4, Text: "x"}, "[{f {5 0 [x] []}}]"},
	} {
		if got := value(c.o, c.u); got != c.want {
			t.Errorf("%+v: %s, want %s", c.u, got, c.want)
		}
	}
}

// P15.1, P15.2: a sequence with elements of several peers, some behind others, some removed: both acts at each place, as an object and as a map's field.
func TestPlaces(t *testing.T) {
	for _, h := range homes() {
		o := h.made()
		if got := h.texts(o); !slices.Equal(got, []string{"z", "a", "d", "f", "c"}) {
			t.Fatalf("%q", got)
		}
		h.askAllPlaces(t, o, historyThere())
	}
}

// P15.1, P15.2: likewise behind each transaction of the history, and with the one behind it lacking.
func TestPlacesOnTheWay(t *testing.T) {
	for _, h := range homes() {
		all := h.history()
		for n := range all {
			o := behind(empty(h.kind), all[:n]...)
			h.askAllPlaces(t, o, standing(elems(o, h.delAt(0))))
			o = behind(empty(h.kind), slices.Delete(slices.Clone(all), n, n+1)...)
			h.askAllPlaces(t, o, standing(elems(o, h.delAt(0))))
		}
	}
}

// P15.1, P15.2: likewise when it was folded: by some of the history, and by all of it.
func TestPlacesOfFolded(t *testing.T) {
	for _, h := range homes() {
		was := len(elems(h.made(), h.delAt(0)))
		for _, cut := range []api.Vec{{}, {0, 1}, {0, 1, 2, 1, 1}, historyCut()} {
			h.askAllPlaces(t, object.Fold(h.made(), cut), historyThere())
		}
		o := object.Fold(h.made(), historyCut())
		if left := len(elems(o, h.delAt(0))); left != was-1 {
			t.Errorf("%d elements of %d are left", left, was)
		}
	}
}

// P15.1: the n-th element is one of those that are there: none that is removed is counted, though it be still in the list, nor is it referred to.
func TestRemovedAreNotCounted(t *testing.T) {
	for _, h := range homes() {
		o := behind(empty(h.kind), tx(1, 1, 1, api.Vec{}, h.ins("a", api.Mark{}), h.ins("b", mk(1, 1, 1)), h.ins("c", mk(1, 1, 2)), h.ins("d", mk(1, 1, 3))))
		for k, there := range [][]api.Mark{
			{mk(1, 1, 2), mk(1, 1, 3), mk(1, 1, 4)},
			{mk(1, 1, 1), mk(1, 1, 3), mk(1, 1, 4)},
			{mk(1, 1, 1), mk(1, 1, 2), mk(1, 1, 4)},
			{mk(1, 1, 1), mk(1, 1, 2), mk(1, 1, 3)},
		} {
			h.askAllPlaces(t, behind(o, tx(2, 1, 2, api.Vec{0, 1}, h.del(mk(1, 1, k+1)))), there)
		}
	}
}

// P15.1: the order is layer 11's, not that of the list, in which elements stand by their marks.
func TestOrderIsTheSequences(t *testing.T) {
	for _, h := range homes() {
		o := behind(empty(h.kind),
			tx(1, 1, 1, api.Vec{}, h.ins("c", api.Mark{})),
			tx(2, 1, 2, api.Vec{0, 1}, h.ins("b", api.Mark{})),
			tx(3, 1, 3, api.Vec{0, 1, 1}, h.ins("a", api.Mark{})))
		h.askAllPlaces(t, o, []api.Mark{mk(3, 1, 1), mk(2, 1, 1), mk(1, 1, 1)})
	}
}

// P15.1: an empty sequence, and one whose elements are all removed, folded too: an insertion at 0 and nothing else.
func TestEmptySequences(t *testing.T) {
	for _, h := range homes() {
		gone := h.removed()
		if len(elems(gone, h.delAt(0))) != 2 {
			t.Errorf("%+v", gone)
		}
		for _, o := range []api.Object{empty(h.kind), gone, object.Fold(gone, api.Vec{0, 1}), object.Fold(gone, api.Vec{0, 1, 1})} {
			askRef(t, o, h.insAt(0, "x"), api.Mark{})
			askError(t, o, h.insAt(1, "x"), 7)
			askError(t, o, h.delAt(0), 7)
			h.askAllPlaces(t, o, nil)
		}
	}
}

// P15.1: a map's field that is not there, and one that is there with another inner kind, is an empty sequence; those beside it are others.
func TestFields(t *testing.T) {
	o := homes()[1].made()
	for _, name := range []string{"", "g", "F", "f\x00", "k", text(65)} {
		h := home{kind: 6, field: name, inner: 5}
		want := api.Errno(7)
		if name == "" || len(name) > textMost {
			want = 2
		}
		askError(t, o, h.insAt(1, "x"), want)
		askError(t, o, h.delAt(0), want)
		if want == 7 {
			askRef(t, o, h.insAt(0, "x"), api.Mark{})
			h.askAllPlaces(t, o, nil)
		}
	}
	f := home{kind: 6, field: "f", inner: 5}
	for inner := 1; inner <= 4; inner++ {
		x := api.Op{Kind: 6, Key: "k", Field: "f", Inner: inner, Act: []int{0, 1, 3, 3, 1}[inner]}
		f.askAllPlaces(t, behind(empty(6), tx(1, 1, 1, api.Vec{}, x)), nil)
	}
	e := home{kind: 6, field: "e", inner: 5}
	e.askAllPlaces(t, o, []api.Mark{mk(5, 1, 2), mk(5, 1, 1)})
	third := home{kind: 6, field: "ff", inner: 5}
	third.askAllPlaces(t, o, []api.Mark{mk(6, 1, 1)})
}

// P15.1: a field that was dropped: what the drop has seen is gone, what it has not is there.
func TestDroppedFields(t *testing.T) {
	h := homes()[1]
	drop := api.Op{Kind: 6, Key: "k", Field: "f", Inner: 5, Act: 5}
	o := behind(h.made(), tx(7, 1, 9, historyCut(), drop))
	h.askAllPlaces(t, o, nil)
	h.askAllPlaces(t, object.Fold(o, api.Vec{0, 9, 9, 9, 9, 9, 9, 9}), nil)
	o = behind(h.made(), tx(7, 1, 9, api.Vec{0, 1, 1}, drop))
	h.askAllPlaces(t, o, []api.Mark{mk(4, 1, 1), mk(3, 2, 1)})
}

// P15.1: a field that is found and not read has its elements all the same: layer 14's Leaf finds it.
func TestFieldsThatAreNotRead(t *testing.T) {
	o := empty(6)
	o.Fields = []api.Field{{Name: "f", Cell: api.Cell{Kind: 5, Elems: []api.Elem{{Mark: mk(1, 1, 1), Time: 1, Text: "a"}}}}}
	h := homes()[1]
	askRef(t, o, h.insAt(1, "x"), mk(1, 1, 1))
	askRef(t, o, h.delAt(0), mk(1, 1, 1))
	askError(t, o, h.insAt(2, "x"), 7)
	askError(t, o, h.delAt(1), 7)
}

// P15.1, P15.2: elements of a transaction that has no name yet have a Ref with the zero Dot, which Checks.
func TestOwnElements(t *testing.T) {
	for _, h := range homes() {
		x := tx(0, 0, 1, api.Vec{}, h.ins("a", api.Mark{}), h.ins("b", mk(0, 0, 1)))
		o := behind(empty(h.kind), x)
		askRef(t, o, h.insAt(1, "x"), mk(0, 0, 1))
		askRef(t, o, h.insAt(2, "x"), mk(0, 0, 2))
		askRef(t, o, h.delAt(0), mk(0, 0, 1))
		askRef(t, o, h.delAt(1), mk(0, 0, 2))
	}
}

// P15.1, P15.2: marks at the ends of what a Ref may be.
func TestMarksAtTheEnds(t *testing.T) {
	for _, m := range []api.Mark{mk(1, 1, 1), mk(12, 1, 1), mk(1, api.MaxSeq, 1), mk(12, api.MaxSeq, 16), mk(1, 1, 16), mk(0, 0, 1), mk(0, 0, 16)} {
		o := empty(5)
		o.Cell.Elems = []api.Elem{{Mark: m, Text: "a"}}
		askRef(t, o, homes()[0].insAt(1, "x"), m)
		askRef(t, o, homes()[0].delAt(0), m)
	}
}

// P15.1: the Ref is the element's Mark. No transaction that may be makes an element of a Mark like these, which no op may refer to; an object with one Checks (layer 14) all the same, and P15.1 names no error for it.
func TestMarksOfNoTransaction(t *testing.T) {
	for _, m := range []api.Mark{mk(13, 1, 1), mk(1, 1, 17), mk(1, api.MaxSeq+1, 1), mk(-1, 1, 1), mk(0, 1, 1), mk(0, 0, math.MaxInt)} {
		o := empty(5)
		o.Cell.Elems = []api.Elem{{Mark: m, Text: "a"}}
		for _, u := range []api.Update{homes()[0].insAt(1, "x"), homes()[0].delAt(0)} {
			want := like(u)
			want.Ref = m
			if got, err := prepare.Op(o, u); err != 0 || got != want {
				t.Errorf("Op(%+v, %+v) = %+v, %d", o, u, got, err)
			}
		}
	}
}

// P15.1: Leaf of updates of every kind, and of those that may not be: Inner of a Map, else Kind.
func TestLeaf(t *testing.T) {
	some := []int{math.MinInt, -6, -1, 0, 1, 2, 3, 4, 5, 6, 7, 8, math.MaxInt}
	for _, kind := range some {
		for _, inner := range some {
			for act := -1; act <= 6; act++ {
				want := kind
				if kind == 6 {
					want = inner
				}
				for _, u := range []api.Update{{Kind: kind, Inner: inner, Act: act}, {Kind: kind, Key: "k", Field: "f", Inner: inner, Act: act, N: 3, Text: text(65), At: -1}} {
					if got := prepare.Leaf(u); got != want {
						t.Errorf("Leaf(%+v) = %d, want %d", u, got, want)
					}
				}
			}
		}
	}
	for _, u := range good() {
		if got := prepare.Leaf(u); got < 1 || got > 5 || u.Kind != 6 && got != u.Kind {
			t.Errorf("Leaf(%+v) = %d", u, got)
		}
	}
	if got := prepare.Leaf(api.Update{}); got != 0 {
		t.Error(got)
	}
}

// P15.1: texts, keys and fields of 0, 1, MaxText bytes and one beyond.
func TestLengths(t *testing.T) {
	wide := strings.Repeat("ä", textMost/2)
	for _, s := range []string{"", "x", "\x00", "\xff", text(63), text(64), text(65), wide, wide + "x", text(1000)} {
		may := len(s) <= 64
		for _, u := range good() {
			o := empty(u.Kind)
			if u.At > 0 || u.Act == 2 && prepare.Leaf(u) == 5 {
				o = homes()[u.Kind-5].made()
			}
			x := u
			if uses := prepare.Leaf(u) != 1 && u.Act != 5 && (prepare.Leaf(u) != 5 || u.Act == 4); uses {
				x.Text = s
				askMay(t, o, x, may)
			}
			x = u
			x.Key = s
			named := o
			named.Key = s
			askMay(t, named, x, may && s != "")
			if x = u; u.Kind == 6 && u.At == 0 && (u.Act != 2 || u.Inner == 4) {
				x.Field = s
				askMay(t, o, x, may && s != "")
			}
		}
	}
}

// askMay asks Op of an update that may be, by the document's account, or may not.
func askMay(t *testing.T, o api.Object, u api.Update, may bool) {
	t.Helper()
	want, wantErr := wanted(o, u)
	if may != (wantErr == 0) {
		t.Errorf("%+v upon %+v: %d", u, o, wantErr)
	}
	askOp(t, o, u, want, wantErr)
}
