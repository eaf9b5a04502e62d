package pack_test

import (
	"math"
	"math/rand"
	"slices"
	"strings"

	"plexus/api"
	"plexus/stamp"
	"plexus/store"
	"plexus/vec"
)

// Ends of what an int holds.
const (
	least    = math.MinInt
	greatest = math.MaxInt
)

// mk answers a Mark.
func mk(peer int, seq int, index int) api.Mark {
	return api.Mark{Dot: api.Dot{Peer: peer, Seq: seq}, Index: index}
}

// full answers a text of so many bytes.
func full(n int) string {
	return strings.Repeat("\xffk\x00", n)[:n]
}

// all is the vector of all that there may be.
func all() api.Vec {
	var v api.Vec
	for p := 1; p < len(v); p++ {
		v[p] = seqMost
	}
	return v
}

// vecs are vectors that may be: nothing, all, something at each place, and numbers where their bytes grow.
func vecs() []api.Vec {
	l := []api.Vec{{}, all(), {0, 1, 2, 3, 4, 5, 6, 7, 8, 9, 10, 11, 12}, {0, 63, 64, 65, 8191, 8192, 8193, 127, 128, seqMost - 1}}
	for p := 1; p <= peersMost; p++ {
		for _, n := range []int{1, 64, seqMost} {
			var v api.Vec
			v[p] = n
			l = append(l, v)
		}
	}
	return l
}

// eachOp answers ops of every kind and act, those upon fields too, with texts, keys and numbers of every length. Those of sequences stand behind what the peers 1 and 2 made, behind nothing, and behind the first one.
func eachOp() []api.Op {
	return []api.Op{
		{Kind: 5, Key: "s", Act: 4, Text: "first"},
		{Kind: 1, Key: "a", Act: 1, N: 3},
		{Kind: 1, Key: full(textMost), Act: 1, N: -1 << 30},
		{Kind: 1, Key: "\x00", Act: 1, N: 1 << 30},
		{Kind: 2, Key: "a", Act: 3},
		{Kind: 3, Key: "é", Act: 3, Text: full(textMost)},
		{Kind: 4, Key: "a", Act: 1, Text: "x"},
		{Kind: 4, Key: "a", Act: 2, Text: full(63)},
		{Kind: 5, Key: "s", Act: 4, Text: "y", Ref: mk(1, 2, 16)},
		{Kind: 5, Key: "s", Act: 4, Ref: mk(3, 5, 1)},
		{Kind: 5, Key: "s", Act: 2, Ref: mk(2, seqMost, 1)},
		{Kind: 6, Key: "m", Field: "f", Inner: 1, Act: 1, N: -64},
		{Kind: 6, Key: "m", Field: full(textMost), Inner: 5, Act: 2, Ref: mk(1, 1, 1)},
		{Kind: 6, Key: full(64), Field: "g", Inner: 4, Act: 5},
		{Kind: 7, Act: 1, N: 12},
		{Kind: 7, Act: 2, N: 1},
	}
}

// txs are transactions that may be: of one op each, of all, of any number up to the most, with what is least and greatest.
func txs() []api.Tx {
	d, deps := api.Dot{Peer: 3, Seq: 5}, api.Vec{0, 2, seqMost, 4}
	var l []api.Tx
	for _, o := range eachOp() {
		ops := []api.Op{o}
		if o.Ref.Dot == d {
			ops = []api.Op{eachOp()[0], o}
		}
		l = append(l, api.Tx{Dot: d, Deps: deps, Time: 70, Ops: ops})
	}
	for n := range len(eachOp()) {
		l = append(l, api.Tx{Dot: d, Deps: deps, Time: 1, Ops: eachOp()[:n+1]})
	}
	return append(l,
		api.Tx{Dot: api.Dot{Peer: 1, Seq: 1}, Time: 1, Ops: eachOp()[:1]},
		api.Tx{Dot: api.Dot{Peer: peersMost, Seq: seqMost}, Time: timeMost, Ops: slices.Repeat(eachOp()[3:4], 16)},
		api.Tx{Dot: api.Dot{Peer: 1, Seq: seqMost}, Deps: api.Vec{0, seqMost - 1, 63, 64}, Time: 64, Ops: eachOp()[1:3]})
}

// lf answers a leaf.
func lf(n int) api.Tree {
	return api.Tree{N: n}
}

// nd answers a tree with Kids.
func nd(n int, kids ...api.Tree) api.Tree {
	return api.Tree{N: n, Kids: kids}
}

// deep answers a tree that is so deep: a leaf beside another one at each step, to one side or the other one.
func deep(depth int, first bool, end int, beside int) api.Tree {
	t := lf(end)
	for range depth {
		if first {
			t = nd(0, t, lf(beside))
		} else {
			t = nd(0, lf(beside), t)
		}
	}
	return t
}

// bushy answers a tree of events of which each way down is so deep.
func bushy(depth int) api.Tree {
	if depth == 0 {
		return lf(0)
	}
	second := bushy(depth - 1)
	second.N++
	return nd(0, bushy(depth-1), second)
}

// forked are stamps that were forked, joined, and counted, by chance.
func forked(r *rand.Rand, n int) []api.Stamp {
	l := []api.Stamp{stamp.Seed()}
	for range n {
		k := r.Intn(len(l))
		switch r.Intn(4) {
		case 0:
			if s, err := stamp.Event(l[k]); err == isOK {
				l[k] = s
			}
		case 1:
			if s, err := stamp.Join(l[k], l[r.Intn(len(l))]); err == isOK {
				l[k] = s
			}
		case 2:
			l = append(l, stamp.Peek(l[k]))
		default:
			if a, b, err := stamp.Fork(l[k]); err == isOK {
				l[k] = a
				l = append(l, b)
			}
		}
	}
	return l
}

// stamps are stamps that may be: leaves, what came of forks and joins, and the deepest ones.
func stamps() []api.Stamp {
	l := []api.Stamp{
		{}, stamp.Seed(), {Event: lf(countMost)}, {Id: lf(1), Event: lf(64)},
		{Id: nd(0, lf(1), lf(0)), Event: nd(1, lf(0), lf(1))},
		{Id: nd(0, lf(0), nd(0, lf(1), lf(0))), Event: nd(3, nd(0, lf(2), lf(0)), lf(70))},
		{Id: deep(depthMost, true, 1, 0), Event: deep(depthMost, false, 1, 0)},
		{Id: deep(depthMost, false, 0, 1), Event: deep(depthMost, true, countMost, 0)},
		{Id: deep(depthMost-1, false, 1, 0), Event: bushy(6)},
	}
	return append(l, forked(rand.New(rand.NewSource(6)), 60)...)
}

// leaves are cells of every kind that Check: with nothing in them, with things of transactions, and with the least and greatest numbers that they may have.
func leaves() []api.Cell {
	few, far := []api.Mark{mk(1, 1, 1), mk(1, 1, 2), mk(2, 64, 16)}, []api.Mark{mk(least, least, 1), mk(least, greatest, greatest), mk(0, 0, 1), mk(greatest, greatest, greatest)}
	l := []api.Cell{
		{Kind: 1, Base: 1 << 60}, {Kind: 1, Base: -1 << 60, Amounts: []api.Amount{{Mark: few[0], N: -5}, {Mark: few[2], N: 64}}},
		{Kind: 2, Writes: []api.Write{{Mark: few[0], Time: 7, Text: "b"}, {Mark: few[2], Time: 5}}},
		{Kind: 3, Writes: []api.Write{{Mark: far[0], Time: least, Text: full(64)}, {Mark: far[3], Time: greatest, Text: full(1)}}},
		{Kind: 4, Members: []api.Member{{Base: true}, {Text: "b", Marks: few}, {Text: "c", Base: true, Marks: few[:1]}, {Text: full(64), Marks: far}}},
		{Kind: 5, Elems: []api.Elem{{Mark: few[0], Time: 3, Text: "a", Gone: few[1:]}, {Mark: few[2], Time: 5, Ref: few[0], Text: "c"}}},
		{Kind: 5, Elems: []api.Elem{{Mark: far[0], Time: least, Ref: far[3], Text: full(64), Gone: far}, {Mark: far[3], Time: greatest, Gone: few[:1]}}},
	}
	for k := 1; k <= 5; k++ {
		l = append(l, api.Cell{Kind: k})
	}
	for _, m := range far {
		l = append(l, api.Cell{Kind: 1, Amounts: []api.Amount{{Mark: m, N: 1 << 30}}})
	}
	return l
}

// everyObject are objects that may be, rising, of every kind: leaves, and a map that has fields of every one.
func everyObject() []api.Object {
	var l []api.Object
	m := api.Object{Kind: 6, Key: "m"}
	for i, c := range leaves() {
		key := string(rune('a' + i))
		if o := (api.Object{Kind: c.Kind, Key: key, Cell: c}); store.Check(api.Store{Objects: []api.Object{o}}) {
			l = append(l, o)
		}
		m.Fields = append(m.Fields, api.Field{Name: key, Base: i%2 == 0, Marks: []api.Mark{mk(1, i+1, 1), mk(2, 1, 3)}[i%2:], Cell: c})
	}
	slices.SortStableFunc(l, func(a api.Object, b api.Object) int { return a.Kind - b.Kind })
	return append(l, m, api.Object{Kind: 6, Key: full(64), Fields: []api.Field{{Name: full(64), Base: true, Cell: api.Cell{Kind: 4}}}})
}

// stores are stores that may be: of no object, of each one alone, of all, and such as transactions made.
func stores() []api.Store {
	l := []api.Store{{}, {Objects: everyObject()}, {Objects: []api.Object{}}}
	for _, o := range everyObject() {
		l = append(l, api.Store{Objects: []api.Object{o}})
	}
	for seed := range int64(4) {
		l = append(l, lived(seed, 12).Base.Store)
	}
	return l
}

// kepts are what disks may keep: of one that is fresh, of one that retired, with what is least and greatest, and such as transactions came to.
func kepts() []api.Kept {
	x := txs()[len(txs())-1]
	l := []api.Kept{
		{Base: api.Base{Self: 1}},
		{Base: api.Base{Self: peersMost, State: 3, Stamp: api.Stamp{Event: lf(7)}, Boot: bootMost, Vec: all(), Cut: all(), Time: timeMost, Joined: everybody(), Left: everybody(), Heirs: everybody()}, Pruned: all(), Seg: segMost},
		{Base: api.Base{Self: 3, State: 1, Stamp: stamp.Seed(), Boot: 64, Vec: all(), Time: 63, Joined: []int{1}, Heirs: []int{12}}, Log: []api.Tx{x}, Seg: 64},
		{Base: api.Base{Self: 3, State: 2, Stamp: stamps()[6], Boot: 1, Vec: all(), Cut: vecs()[2], Time: 1, Store: api.Store{Objects: everyObject()}, Left: []int{2, 12}}, Pruned: vecs()[3], Log: []api.Tx{x, txs()[len(txs())-2]}, Seg: 1},
	}
	for seed := range int64(4) {
		l = append(l, lived(seed, 10))
	}
	return l
}

// everybody are the numbers of all peers.
func everybody() []int {
	var l []int
	for p := range peersMost {
		l = append(l, p+1)
	}
	return l
}

// anyOp answers an op that may be, by chance; of a sequence it refers to one of these marks, if there are some.
func anyOp(r *rand.Rand, seen []api.Mark) api.Op {
	key, text := string(rune('a'+r.Intn(2))), string(rune('p'+r.Intn(4)))
	deeds := [][2]int{{1, 1}, {2, 3}, {3, 3}, {4, 1}, {4, 2}, {5, 4}, {5, 2}, {0, 5}}
	d := deeds[r.Intn(len(deeds))]
	o := api.Op{Kind: d[0], Key: key, Act: d[1]}
	if d[0] == 0 || r.Intn(2) == 0 {
		o.Kind, o.Field, o.Inner = 6, string(rune('f'+r.Intn(2))), d[0]
	}
	if d[0] == 0 {
		o.Inner = 1 + r.Intn(5)
	}
	switch d {
	case deeds[0]:
		o.N = r.Intn(200) - 100
	case deeds[5]:
		o.Text = text
		if len(seen) > 0 && r.Intn(3) > 0 {
			o.Ref = seen[r.Intn(len(seen))]
		}
	case deeds[6]:
		if len(seen) == 0 {
			return api.Op{Kind: 7, Act: 1 + r.Intn(2), N: 1 + r.Intn(12)}
		}
		o.Ref = seen[r.Intn(len(seen))]
	case deeds[7]:
	default:
		o.Text = text
	}
	return o
}

// lived answers what a disk keeps of a peer that so many transactions came to, by chance: some were pruned, and what these made was folded.
func lived(seed int64, n int) api.Kept {
	r := rand.New(rand.NewSource(seed))
	many := forked(r, 20)
	k := api.Kept{Base: api.Base{Self: 1 + r.Intn(12), State: r.Intn(4), Stamp: many[r.Intn(len(many))], Boot: r.Intn(100), Joined: []int{1, 2, 3}, Left: []int{3}, Heirs: []int{2}}, Seg: r.Intn(100)}
	var marks []api.Mark
	for i := range n {
		p := 1 + r.Intn(3)
		x := api.Tx{Dot: api.Dot{Peer: p, Seq: k.Base.Vec[p] + 1}, Deps: k.Base.Vec, Time: i + 1}
		for range 1 + r.Intn(6) {
			x.Ops = append(x.Ops, anyOp(r, marks))
		}
		s, err := store.Apply(k.Base.Store, x)
		if err != isOK {
			panic("a transaction that may not be")
		}
		for at := range x.Ops {
			marks = append(marks, mk(p, x.Dot.Seq, at+1))
		}
		k.Base.Store, k.Base.Time = s, x.Time
		k.Base.Vec[p]++
		k.Log = append(k.Log, x)
		if r.Intn(6) == 0 {
			k.Pruned = vec.Join(k.Pruned, x.Deps)
			k.Base.Cut, k.Base.Store = k.Pruned, store.Fold(s, k.Pruned)
			k.Log = slices.DeleteFunc(k.Log, func(x api.Tx) bool { return vec.Has(k.Pruned, x.Dot) })
		}
	}
	return k
}
