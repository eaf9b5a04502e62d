package pack_test

import (
	"bytes"
	"fmt"
	"math"
	"slices"
	"strings"
	"testing"

	"plexus/api"
	"plexus/pack"
	"plexus/store"
)

// turned answers a value that is another one by what turn does to it.
func turned[T any](x T, turn func(*T)) T {
	turn(&x)
	return x
}

// wrongVecs are vectors that may not be: something at 0, below 0 and beyond the most at each place.
func wrongVecs() []any {
	l := []any{api.Vec{1}, api.Vec{seqMost, 1}}
	for p := range peersMost + 1 {
		for _, n := range []int{-1, seqMost + 1, least, greatest} {
			l = append(l, turned(all(), func(v *api.Vec) { v[p] = n }), turned(api.Vec{}, func(v *api.Vec) { v[p] = n }))
		}
	}
	return l
}

// wrongOps are ops that may not be of the transaction that txs has.
func wrongOps() []api.Op {
	return []api.Op{
		{}, {Kind: 1, Act: 1}, {Kind: 1, Key: full(65), Act: 1}, {Kind: 1, Key: "a", Act: 1, N: 1<<30 + 1}, {Kind: 1, Key: "a", Act: 1, N: least},
		{Kind: 1, Key: "a", Act: 1, Text: "x"}, {Kind: 1, Key: "a", Act: 2}, {Kind: 2, Key: "a", Act: 3, Text: full(65)}, {Kind: 2, Key: "a", Act: 3, Text: full(1000)},
		{Kind: 6, Key: "m", Inner: 1, Act: 1}, {Kind: 6, Key: "m", Field: full(65), Inner: 1, Act: 1}, {Kind: 6, Key: "m", Field: "f", Inner: 6, Act: 5}, {Kind: 4, Key: "a", Act: 1, N: 1},
		{Kind: 5, Key: "s", Act: 2}, {Kind: 5, Key: "s", Act: 4, Ref: mk(3, 5, 9)}, {Kind: 5, Key: "s", Act: 4, Ref: mk(4, 5, 1)}, {Kind: 5, Key: "s", Act: 4, Ref: mk(0, 0, 1)}, {Kind: 5, Key: "s", Act: 4, Ref: mk(1, 1, 17)},
		{Kind: 7, Act: 1, N: 13}, {Kind: 7, Act: 1, N: 0}, {Kind: 7, Act: 3, N: 1}, {Kind: 8, Key: "a", Act: 1}, {Kind: greatest, Key: "a", Act: 1}, {Kind: least, Key: "a", Act: least},
	}
}

// wrongTxs are transactions that may not be.
func wrongTxs() []any {
	right := txs()[1]
	l := []any{api.Tx{}, api.Tx{Dot: right.Dot}}
	turn := func(f func(*api.Tx)) { l = append(l, turned(right, f)) }
	for _, d := range []api.Dot{{}, {Peer: 3}, {Seq: 5}, {Peer: 13, Seq: 5}, {Peer: -1, Seq: 5}, {Peer: 3, Seq: seqMost + 1}, {Peer: 3, Seq: -1}, {Peer: 2, Seq: seqMost}, {Peer: 3, Seq: 4}, {Peer: least, Seq: least}, {Peer: greatest, Seq: greatest}} {
		turn(func(x *api.Tx) { x.Dot = d })
	}
	for _, n := range []int{0, -1, timeMost + 1, least, greatest} {
		turn(func(x *api.Tx) { x.Time = n })
	}
	for _, n := range []int{0, 17, 18, listMost, listMost + 1} {
		turn(func(x *api.Tx) { x.Ops = slices.Repeat(eachOp()[1:2], n) })
	}
	for _, v := range wrongVecs() {
		turn(func(x *api.Tx) { x.Deps = v.(api.Vec) })
	}
	for _, o := range wrongOps() {
		turn(func(x *api.Tx) { x.Ops = []api.Op{o} })
		turn(func(x *api.Tx) { x.Ops = append(slices.Clone(eachOp()[:8]), o) })
		turn(func(x *api.Tx) { x.Ops = append([]api.Op{o}, eachOp()[:8]...) })
	}
	// One that is open has no name: it is none that is put.
	turn(func(x *api.Tx) { x.Dot, x.Ops = api.Dot{}, eachOp()[1:2] })
	return l
}

// wrongTrees are trees that are neither identities nor events: too deep, with one Kid or three, and with an N that no tree has.
func wrongTrees() []api.Tree {
	l := []api.Tree{
		nd(0, lf(0)), nd(0, lf(1)), nd(0, lf(0), lf(1), lf(0)), nd(0, lf(0), lf(1), lf(0), lf(1)), nd(0, lf(0), nd(0, lf(1))), nd(0, nd(0, lf(1), lf(0), lf(0)), lf(0)),
		deep(depthMost+1, true, 1, 0), deep(depthMost+1, false, 1, 0), deep(depthMost+4, true, 1, 0), deep(1000, true, 1, 0), deep(depthMost, true, 1, -1),
		lf(-1), lf(least), lf(greatest), lf(countMost + 1), nd(0, lf(0), lf(0)), nd(0, lf(1), lf(1)), nd(-1, lf(0), lf(1)), nd(0, lf(-1), lf(0)), nd(countMost+1, lf(0), lf(1)),
	}
	for _, n := range []int{16, listMost, listMost + 1} {
		l = append(l, nd(0, slices.Repeat([]api.Tree{lf(0), lf(1)}, n)...))
	}
	return l
}

// wrongStamps are stamps that may not be, by their identity or by their event alone.
func wrongStamps() []any {
	var l []any
	for _, t := range wrongTrees() {
		l = append(l, api.Stamp{Id: t}, api.Stamp{Id: lf(1), Event: t}, api.Stamp{Id: t, Event: t})
	}
	for _, t := range []api.Tree{lf(2), nd(1, lf(0), lf(1)), nd(0, lf(0), lf(2)), nd(0, nd(0, lf(1), lf(1)), lf(0))} {
		l = append(l, api.Stamp{Id: t})
	}
	for _, t := range []api.Tree{nd(0, lf(1), lf(2)), nd(3, lf(2), lf(2)), nd(1, lf(0), lf(countMost)), nd(0, lf(0), nd(0, lf(1), lf(2)))} {
		l = append(l, api.Stamp{Id: lf(1), Event: t})
	}
	return l
}

// rings are stamps of trees that hold themselves.
func rings() []any {
	kids := make([]api.Tree, 2)
	kids[0] = api.Tree{Kids: kids}
	three := make([]api.Tree, 3)
	three[1] = api.Tree{Kids: three}
	var l []any
	for _, t := range []api.Tree{{Kids: kids}, {Kids: three}, {N: 1, Kids: kids}} {
		l = append(l, api.Stamp{Id: t}, api.Stamp{Id: lf(1), Event: t}, api.Stamp{Id: t, Event: t})
	}
	return l
}

// wrongObjects are objects that may not be, of the kinds that leaves and maps have.
func wrongObjects() []api.Object {
	few := []api.Mark{mk(1, 1, 1), mk(1, 2, 1)}
	turned := []api.Mark{few[1], few[0]}
	leaf := func(c api.Cell) api.Object { return api.Object{Kind: c.Kind, Key: "a", Cell: c} }
	l := []api.Object{
		{}, {Kind: 1}, {Kind: 1, Key: "a"}, {Kind: 6, Key: "a"}, {Kind: 7, Key: "a"}, {Kind: 7, Key: "a", Cell: api.Cell{Kind: 7, Base: 1}}, {Kind: least, Key: "a"},
		{Kind: 1, Key: "", Cell: api.Cell{Kind: 1, Base: 1}}, {Kind: 1, Key: full(65), Cell: api.Cell{Kind: 1, Base: 1}}, {Kind: 1, Key: "a", Cell: api.Cell{Kind: 2, Base: 1}},
		{Kind: 1, Key: "a", Cell: api.Cell{Kind: 1, Base: 1}, Fields: []api.Field{{Name: "f", Base: true, Cell: api.Cell{Kind: 1}}}},
		{Kind: 6, Key: "a", Cell: api.Cell{Kind: 1, Base: 1}, Fields: []api.Field{{Name: "f", Base: true, Cell: api.Cell{Kind: 1}}}},
		leaf(api.Cell{Kind: 1}), leaf(api.Cell{Kind: 5}), leaf(api.Cell{Kind: 1, Base: 1<<60 + 1}), leaf(api.Cell{Kind: 1, Base: least}), leaf(api.Cell{Kind: 1, Amounts: []api.Amount{{Mark: mk(1, 1, 0)}}}),
		leaf(api.Cell{Kind: 1, Amounts: []api.Amount{{Mark: few[1]}, {Mark: few[0]}}}), leaf(api.Cell{Kind: 1, Amounts: []api.Amount{{Mark: few[0]}, {Mark: few[0]}}}), leaf(api.Cell{Kind: 1, Amounts: []api.Amount{{Mark: few[0], N: 1<<30 + 1}}}),
		leaf(api.Cell{Kind: 1, Base: 1, Writes: []api.Write{{Mark: few[0]}}}), leaf(api.Cell{Kind: 2, Base: 1}), leaf(api.Cell{Kind: 2, Writes: []api.Write{{Mark: few[0], Text: full(65)}}}), leaf(api.Cell{Kind: 3, Writes: []api.Write{{Mark: few[1]}, {Mark: few[0]}}}),
		leaf(api.Cell{Kind: 4, Members: []api.Member{{Text: "a"}}}), leaf(api.Cell{Kind: 4, Members: []api.Member{{Text: "b", Base: true}, {Text: "a", Base: true}}}), leaf(api.Cell{Kind: 4, Members: []api.Member{{Text: full(65), Base: true}}}), leaf(api.Cell{Kind: 4, Members: []api.Member{{Marks: turned}}}),
		leaf(api.Cell{Kind: 5, Elems: []api.Elem{{Mark: few[0], Ref: few[0]}}}), leaf(api.Cell{Kind: 5, Elems: []api.Elem{{Mark: few[0], Ref: few[1]}}}), leaf(api.Cell{Kind: 5, Elems: []api.Elem{{Mark: few[0], Text: full(65)}}}), leaf(api.Cell{Kind: 5, Elems: []api.Elem{{Mark: few[0], Gone: turned}}}),
	}
	for _, f := range [][]api.Field{
		{{}}, {{Name: "f"}}, {{Name: "f", Cell: api.Cell{Kind: 1}}}, {{Base: true, Cell: api.Cell{Kind: 1}}}, {{Name: full(65), Base: true, Cell: api.Cell{Kind: 1}}}, {{Name: "f", Base: true, Cell: api.Cell{Kind: 6}}},
		{{Name: "f", Marks: turned, Cell: api.Cell{Kind: 1}}}, {{Name: "f", Base: true, Cell: api.Cell{Kind: 2}}, {Name: "f", Base: true, Cell: api.Cell{Kind: 1}}}, {{Name: "f", Base: true, Cell: api.Cell{Kind: 1, Base: greatest}}},
	} {
		l = append(l, api.Object{Kind: 6, Key: "a", Fields: f})
	}
	return l
}

// wrongStores are stores that may not be: with an object that may not, and with objects that do not rise.
func wrongStores() []any {
	every := everyObject()
	l := []any{api.Store{Objects: []api.Object{every[1], every[0]}}, api.Store{Objects: []api.Object{every[0], every[0]}}, api.Store{Objects: append(slices.Clone(every), every[0])}}
	for _, o := range wrongObjects() {
		l = append(l, api.Store{Objects: []api.Object{o}}, api.Store{Objects: append([]api.Object{o}, every[len(every)-1])})
	}
	return l
}

// askWrong asks whether a value that may not be comes to nothing, whatever stands ahead of it, and whether its bytes are ErrForm.
func askWrong(t *testing.T, k kind, x any) {
	t.Helper()
	if k.may(x) {
		t.Fatalf("%s may be: %s", k.name, told(x))
	}
	for _, ahead := range [][]byte{nil, {}, {0}, []byte("ab"), make([]byte, 3, 1000)} {
		if b := k.put(ahead, x); b != nil {
			t.Fatalf("Put of %s behind %v: %v: %s", k.name, ahead, head(b), told(x))
		}
	}
	askRefused(t, k, plain(x), isForm)
	askRefused(t, k, append(plain(x), bytes.Repeat([]byte{0}, 100)...), isForm)
}

// P21.1: what may not be is nothing to Put, and ErrForm to Get, with zeros beside.
func TestWhatMayNotBe(t *testing.T) {
	wrong := [][]any{wrongVecs(), wrongTxs(), wrongStamps(), wrongStores(), wrongKepts()}
	for i, k := range kindsOfAll() {
		t.Run(k.name, func(t *testing.T) {
			for _, x := range wrong[i] {
				askWrong(t, k, x)
			}
		})
	}
}

// P21.1, R1: trees that hold themselves come to nothing, and the call ends.
func TestRings(t *testing.T) {
	for _, x := range rings() {
		s := x.(api.Stamp)
		if b := pack.PutStamp([]byte("ab"), s); b != nil {
			t.Errorf("a tree that holds itself: %v", head(b))
		}
		k := kepts()[2]
		k.Base.Stamp = s
		if b := pack.PutKept(nil, k); b != nil || pack.CheckBase(k.Base) {
			t.Errorf("what is kept, with a tree that holds itself: %v", head(b))
		}
	}
}

// inPlace answers bytes in which a number is another one.
func inPlace(b []byte, at token, number []byte) []byte {
	return slices.Concat(b[:at.at], number, b[at.at+at.size:])
}

// noNumbers are bytes that are no number, whatever is behind them.
func noNumbers() [][]byte {
	on := bytes.Repeat([]byte{255}, 9)
	return [][]byte{{128, 0}, {130, 0}, {255, 255, 0}, slices.Concat(on, []byte{2}), slices.Concat(on, []byte{127}), slices.Concat(on, []byte{129, 1}), slices.Concat(on, on, []byte{1})}
}

// P21.1: at each place where a number stands, bytes that are none are ErrForm; a text of more than MaxText bytes, a list of more than 4096 elements, a bool that is neither 0 nor 1, a tree of one Kid or of three, and what is below 0 of these, are so, too, whatever is behind. Any other number there is answered as the chapter's words have it.
func TestEachNumber(t *testing.T) {
	wrong := map[string][]int{
		asLength: {-1, -2, 65, 66, 4096, least, greatest},
		asCount:  {-1, -2, -4096, 4097, 4098, 5000, 1 << 20, least, greatest},
		asBool:   {-1, -2, 2, 3, 256, 257, 1 << 32, least, greatest},
		asKids:   {-1, -2, 1, 3, 4, 4096, 4097, least, greatest},
	}
	others := []int{0, 1, 2, 3, 4, 5, 6, 7, 12, 13, 16, 17, 63, 64, -1, -64, 1 << 20, 1<<20 + 1, 1 << 30, 1<<30 + 1, 1 << 40, 1<<40 + 1, least, greatest}
	eachKind(t, func(t *testing.T, k kind) {
		met := map[string]int{}
		for _, x := range k.values[:min(len(k.values), 40)] {
			b := plain(x)
			for _, at := range tokensOf(k, b) {
				if met[at.as]++; met[at.as] > 200 {
					continue
				}
				for _, none := range noNumbers() {
					askRefused(t, k, inPlace(b, at, none), isForm)
				}
				for _, n := range wrong[at.as] {
					askRefused(t, k, inPlace(b, at, number(n)), isForm)
				}
				for _, n := range others {
					askGet(t, k, inPlace(b, at, number(n)))
				}
			}
		}
		for _, as := range map[string][]string{"a vector": {asNumber}, "a transaction": {asNumber, asLength, asCount}, "a stamp": {asNumber, asKids}, "a store": {asNumber, asLength, asCount, asBool}, "what is kept": {asNumber, asLength, asCount, asBool, asKids}}[k.name] {
			if met[as] < 5 {
				t.Errorf("%s has %s %d times", k.name, as, met[as])
			}
		}
	})
}

// name answers texts that rise with n.
func name(n int) string {
	return fmt.Sprintf("%05d", n)
}

// manyMarks answers so many marks that rise.
func manyMarks(n int) []api.Mark {
	var l []api.Mark
	for i := range n {
		l = append(l, mk(1+i/2048, 1, 1+i%2048))
	}
	return l
}

// many makes a list of so many elements by their places.
func many[T any](n int, make func(int) T) []T {
	var l []T
	for i := range n {
		l = append(l, make(i))
	}
	return l
}

// longCells are cells with so many elements in each of their lists, one list each.
func longCells(n int) []api.Cell {
	m := manyMarks(n)
	behind := append([]api.Mark{{}}, m...)
	return []api.Cell{
		{Kind: 1, Base: 1, Amounts: many(n, func(i int) api.Amount { return api.Amount{Mark: m[i], N: i} })},
		{Kind: 2, Writes: many(n, func(i int) api.Write { return api.Write{Mark: m[i], Time: i} })},
		{Kind: 3, Writes: many(n, func(i int) api.Write { return api.Write{Mark: m[i], Text: name(i)} })},
		{Kind: 4, Members: many(n, func(i int) api.Member { return api.Member{Text: name(i), Base: true} })},
		{Kind: 4, Members: []api.Member{{Text: "a", Base: true, Marks: m}, {Text: "b", Base: true}}},
		{Kind: 5, Elems: many(n, func(i int) api.Elem { return api.Elem{Mark: m[i], Ref: behind[i]} })},
		{Kind: 5, Elems: []api.Elem{{Mark: mk(1, 1, 1), Gone: m}}},
	}
}

// longStores are stores with so many elements in each list that a store has, one list each.
func longStores(n int) []api.Store {
	l := []api.Store{
		{Objects: many(n, func(i int) api.Object { return api.Object{Kind: 1, Key: name(i), Cell: api.Cell{Kind: 1, Base: 1}} })},
		{Objects: []api.Object{{Kind: 6, Key: "m", Fields: many(n, func(i int) api.Field { return api.Field{Name: name(i), Base: true, Cell: api.Cell{Kind: 4}} })}}},
		{Objects: []api.Object{{Kind: 6, Key: "m", Fields: []api.Field{{Name: "f", Base: true, Marks: manyMarks(n), Cell: api.Cell{Kind: 4}}}}}},
	}
	for _, c := range longCells(n) {
		l = append(l,
			api.Store{Objects: []api.Object{{Kind: c.Kind, Key: "a", Cell: c}}},
			api.Store{Objects: []api.Object{{Kind: 6, Key: "m", Fields: []api.Field{{Name: "f", Base: true, Cell: c}}}}})
	}
	return l
}

// P21.1: lists of any number of elements up to 4096 are put and got; one of more comes to nothing, though the store Checks, and is ErrForm, though all of it is there. So it is of what is kept with such a store.
func TestLongLists(t *testing.T) {
	storeKind, keptKind := kindsOfAll()[3], kindsOfAll()[4]
	for _, n := range []int{0, 1, 2, 63, 64, 4095, 4096, 4097, 4098, 5000} {
		for i, s := range longStores(n) {
			if n == 0 && !store.Check(s) {
				continue
			}
			if !store.Check(s) {
				t.Fatalf("the store %d with lists of %d may not be", i, n)
			}
			k := kepts()[0]
			k.Base.Store = s
			if n > listMost {
				if a, b := pack.PutStore([]byte("a"), s), pack.PutKept(nil, k); a != nil || b != nil {
					t.Fatalf("the store %d with lists of %d: %v %v", i, n, head(a), head(b))
				}
				askRefused(t, storeKind, plain(s), isForm)
				askRefused(t, keptKind, plain(k), isForm)
				continue
			}
			askPut(t, storeKind, []byte("a"), s)
			askPut(t, keptKind, nil, k)
			askGets(t, storeKind, append(plain(s), 'b'), s, []byte("b"), isOK)
			askGets(t, keptKind, append(plain(k), 'b'), k, []byte("b"), isOK)
		}
	}
}

// P21.1: a list says ahead of all else that it is too long: 4096 elements of which there are none are short, 4097 are not.
func TestLongListsOfNothing(t *testing.T) {
	storeKind := kindsOfAll()[3]
	for n, err := range map[int]api.Errno{1: isShort, 4095: isShort, 4096: isShort, 4097: isForm, greatest: isForm, -1: isForm, least: isForm} {
		askRefused(t, storeKind, number(n), err)
	}
	askGets(t, storeKind, number(0), api.Store{}, nil, isOK)
}

// P21.1: texts of no byte and of MaxText are put and got wherever they may stand; one more is nothing, and ErrForm.
func TestTexts(t *testing.T) {
	k := kindsOfAll()[3]
	for n := range 70 {
		s := full(n)
		for i, o := range []api.Object{
			{Kind: 1, Key: s, Cell: api.Cell{Kind: 1, Base: 1}},
			{Kind: 2, Key: "a", Cell: api.Cell{Kind: 2, Writes: []api.Write{{Mark: mk(1, 1, 1), Text: s}}}},
			{Kind: 4, Key: "a", Cell: api.Cell{Kind: 4, Members: []api.Member{{Text: s, Base: true}}}},
			{Kind: 5, Key: "a", Cell: api.Cell{Kind: 5, Elems: []api.Elem{{Mark: mk(1, 1, 1), Text: s}}}},
			{Kind: 6, Key: "a", Fields: []api.Field{{Name: s, Base: true, Cell: api.Cell{Kind: 1}}}},
		} {
			x := api.Store{Objects: []api.Object{o}}
			// A key and a field's name have a byte at least.
			if named := i == 0 || i == 4; n > textMost || named && n == 0 {
				askWrong(t, k, x)
			} else {
				askPut(t, k, []byte("ab"), x)
				askGets(t, k, append(plain(x), s...), x, []byte(s), isOK)
			}
		}
	}
}

// P21.1: trees as deep as they may be are put and got, of whatever form; those one deeper are ErrForm, as soon as that shows.
func TestDeepTrees(t *testing.T) {
	k := kindsOfAll()[2]
	for depth := range depthMost + 3 {
		for _, first := range []bool{true, false} {
			s := api.Stamp{Id: deep(depth, first, 1, 0), Event: deep(depth, !first, 3, 0)}
			if depth > depthMost {
				askWrong(t, k, s)
				askWrong(t, k, api.Stamp{Id: s.Id})
				askWrong(t, k, api.Stamp{Event: s.Event})
				continue
			}
			askPut(t, k, nil, s)
			askGets(t, k, plain(s), s, nil, isOK)
		}
	}
	down := strings.Repeat("\x00\x04", depthMost)
	askRefused(t, k, []byte(down), isShort)
	askRefused(t, k, []byte(down+"\x00"), isShort)
	askRefused(t, k, []byte(down+"\x00\x04"), isForm)
	askRefused(t, k, []byte(strings.Repeat(down, 1<<12)), isForm)
	askRefused(t, k, []byte("\x00\x02"), isForm)
	askRefused(t, k, []byte("\x00\x06"), isForm)
	x := api.Stamp{Id: lf(1), Event: bushy(depthMost)}
	askPut(t, k, nil, x)
	askGets(t, k, plain(x), x, nil, isOK)
}

// P21.1: numbers at either end of what an int holds are put and got where they may stand, and are ErrForm elsewhere.
func TestFarNumbers(t *testing.T) {
	k := kindsOfAll()[3]
	for _, n := range []int{least, least + 1, -1 << 62, math.MinInt32, -1, 0, 1, math.MaxInt32, math.MaxUint32, 1 << 62, greatest - 1, greatest} {
		for _, m := range []api.Mark{mk(n, 1, 1), mk(1, n, 1), mk(n, n, 2)} {
			x := api.Store{Objects: []api.Object{{Kind: 3, Key: "a", Cell: api.Cell{Kind: 3, Writes: []api.Write{{Mark: m, Time: n}}}}, {Kind: 5, Key: "a", Cell: api.Cell{Kind: 5, Elems: []api.Elem{{Mark: m, Time: n}}}}}}
			askPut(t, k, nil, x)
			askGets(t, k, plain(x), x, nil, isOK)
		}
		x := api.Store{Objects: []api.Object{{Kind: 1, Key: "a", Cell: api.Cell{Kind: 1, Amounts: []api.Amount{{Mark: mk(1, 1, n), N: 1}}}}}}
		if n < 1 {
			askWrong(t, k, x)
		} else {
			askPut(t, k, nil, x)
			askGets(t, k, plain(x), x, nil, isOK)
		}
	}
}
