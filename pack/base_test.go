package pack_test

import (
	"slices"
	"testing"

	"plexus/api"
	"plexus/pack"
	"plexus/stamp"
)

// sound answers a base that may be.
func sound() api.Base {
	return api.Base{
		Self: 3, State: 1, Stamp: stamp.Seed(), Boot: 7, Vec: api.Vec{0, 5, 4, 3}, Cut: api.Vec{0, 2, 4}, Time: 9, Store: lived(1, 9).Base.Store,
		Joined: []int{1, 3, 12}, Left: []int{1}, Heirs: []int{2, 4},
	}
}

// ones is the vector of so many at each peer.
func ones(n int) api.Vec {
	v := all()
	for p := range v {
		v[p] = min(v[p], n)
	}
	return v
}

// edge is what a base is turned to, and whether it may be then.
type edge struct {
	name string
	turn func(*api.Base)
	want bool
}

// numberEdges are the numbers of a base at and beside their ends.
func numberEdges() []edge {
	var l []edge
	add := func(name string, want bool, part func(*api.Base) *int, numbers ...int) {
		for _, n := range numbers {
			l = append(l, edge{name, func(x *api.Base) { *part(x) = n }, want})
		}
	}
	self, state := func(x *api.Base) *int { return &x.Self }, func(x *api.Base) *int { return &x.State }
	boot, time := func(x *api.Base) *int { return &x.Boot }, func(x *api.Base) *int { return &x.Time }
	add("Self", true, self, everybody()...)
	add("Self", false, self, 0, 13, -1, least, greatest)
	add("State", true, state, 0, 1, 2, 3)
	add("State", false, state, -1, 4, least, greatest)
	add("Boot", true, boot, 0, 1, bootMost-1, bootMost)
	add("Boot", false, boot, -1, bootMost+1, least, greatest)
	add("Time", true, time, 0, 1, bootMost+1, timeMost-1, timeMost)
	add("Time", false, time, -1, timeMost+1, least, greatest)
	return l
}

// peerEdges are the lists of peers of a base that may be, and that may not.
func peerEdges() []edge {
	var l []edge
	for name, part := range map[string]func(*api.Base) *[]int{
		"Joined": func(x *api.Base) *[]int { return &x.Joined }, "Left": func(x *api.Base) *[]int { return &x.Left }, "Heirs": func(x *api.Base) *[]int { return &x.Heirs },
	} {
		for _, peers := range [][]int{nil, {}, {1}, {12}, {1, 12}, {2, 3, 4}, everybody()} {
			l = append(l, edge{name, func(x *api.Base) { *part(x) = peers }, true})
		}
		for _, peers := range [][]int{{0}, {13}, {-1}, {2, 1}, {1, 1}, {1, 2, 2}, {1, 3, 2}, {1, 13}, {least}, {greatest}, append(everybody(), 13), append(everybody(), 12), make([]int, 4097)} {
			l = append(l, edge{name, func(x *api.Base) { *part(x) = peers }, false})
		}
	}
	return l
}

// vecEdges are the vectors of a base that may be, and that may not.
func vecEdges() []edge {
	l := []edge{
		{"no Vec", func(x *api.Base) { x.Vec, x.Cut = api.Vec{}, api.Vec{} }, true},
		{"all", func(x *api.Base) { x.Vec = all() }, true},
		{"all in the Cut", func(x *api.Base) { x.Vec, x.Cut = all(), all() }, true},
		{"the Cut is the Vec", func(x *api.Base) { x.Cut = x.Vec }, true},
		{"no Cut", func(x *api.Base) { x.Cut = api.Vec{} }, true},
		{"a Cut of none", func(x *api.Base) { x.Vec = api.Vec{} }, false},
		{"a Cut of all", func(x *api.Base) { x.Cut = all() }, false},
	}
	for p := range peersMost + 1 {
		for _, n := range []int{-1, seqMost + 1, least, greatest} {
			l = append(l,
				edge{"a Vec that does not Check", func(x *api.Base) { x.Vec[p], x.Cut[p] = n, min(n, 0) }, false},
				edge{"a Vec that does not Check", func(x *api.Base) { x.Vec[p], x.Cut[p] = n, n }, false},
				edge{"a Cut that does not Check", func(x *api.Base) { x.Vec, x.Cut = all(), ones(1); x.Cut[p] = n }, false})
		}
		if p > 0 {
			l = append(l,
				edge{"a Cut one beyond", func(x *api.Base) { x.Vec, x.Cut = ones(5), ones(5); x.Cut[p] = 6 }, false},
				edge{"a Cut one behind", func(x *api.Base) { x.Vec, x.Cut = ones(5), ones(5); x.Cut[p] = 4 }, true})
		} else {
			l = append(l, edge{"something of 0", func(x *api.Base) { x.Vec[0], x.Cut[0] = 1, 1 }, false}, edge{"something of 0", func(x *api.Base) { x.Vec[0] = 1 }, false})
		}
	}
	return l
}

// P21.2, CheckBase: each field at and beside its ends, all others as they may be.
func TestCheckBase(t *testing.T) {
	l := slices.Concat(numberEdges(), peerEdges(), vecEdges())
	for _, s := range stamps() {
		l = append(l, edge{"a stamp", func(x *api.Base) { x.Stamp = s }, true})
	}
	for _, s := range append(wrongStamps(), rings()...) {
		l = append(l, edge{"a stamp", func(x *api.Base) { x.Stamp = s.(api.Stamp) }, false})
	}
	for _, s := range append(stores(), longStores(4097)...) {
		l = append(l, edge{"a store", func(x *api.Base) { x.Store = s }, true})
	}
	for _, s := range wrongStores() {
		l = append(l, edge{"a store", func(x *api.Base) { x.Store = s.(api.Store) }, false})
	}
	for _, c := range l {
		x := turned(sound(), c.turn)
		if got := pack.CheckBase(x); got != c.want || baseMay(x) != c.want {
			t.Fatalf("%s: %t of %s", c.name, got, told(x))
		}
		for _, k := range kepts() {
			c.turn(&k.Base)
			if got := pack.CheckBase(k.Base); got != baseMay(k.Base) {
				t.Fatalf("%s: %t of %s", c.name, got, told(k.Base))
			}
		}
	}
	if pack.CheckBase(api.Base{}) || !pack.CheckBase(sound()) {
		t.Error("the zero one may be, or the sound one may not")
	}
}

// keptEdges are what is kept that may be, or not, by its log, by what was pruned, and by its segment.
func keptEdges() (may []api.Kept, not []api.Kept) {
	right := lived(2, 12)
	right.Pruned = api.Vec{0, 1}
	right.Log = slices.DeleteFunc(slices.Clone(lived(3, 12).Log), func(x api.Tx) bool { return x.Dot == api.Dot{Peer: 1, Seq: 1} })
	right.Base.Vec = ones(12)
	last := len(right.Log) - 1
	other := turned(right.Log[last], func(x *api.Tx) { x.Time++ })
	add := func(l *[]api.Kept, turn func(*api.Kept)) { *l = append(*l, turned(right, turn)) }
	with := func(k *api.Kept, at int, x api.Tx) { k.Log = slices.Insert(slices.Clone(k.Log), at, x) }
	for _, n := range []int{0, 1, 64, segMost - 1, segMost} {
		add(&may, func(k *api.Kept) { k.Seg = n })
	}
	for _, n := range []int{-1, segMost + 1, least, greatest} {
		add(&not, func(k *api.Kept) { k.Seg = n })
	}
	add(&may, func(k *api.Kept) { k.Pruned, k.Log = api.Vec{}, nil })
	add(&may, func(k *api.Kept) { k.Pruned, k.Log = k.Base.Vec, nil })
	add(&may, func(k *api.Kept) { slices.Reverse(k.Log) })
	for at := range last + 2 {
		for _, x := range []api.Tx{other, right.Log[last], right.Log[0]} {
			add(&not, func(k *api.Kept) { with(k, at, x) })
		}
		for _, d := range []api.Dot{{Peer: 1, Seq: 13}, {Peer: 12, Seq: 13}, {Peer: 1, Seq: 1}, {Peer: 5, Seq: seqMost}} {
			add(&not, func(k *api.Kept) { with(k, at, api.Tx{Dot: d, Time: 1, Ops: eachOp()[:1]}) })
		}
		for _, x := range wrongTxs()[:20] {
			add(&not, func(k *api.Kept) { with(k, at, x.(api.Tx)) })
		}
		add(&may, func(k *api.Kept) { with(k, at, api.Tx{Dot: api.Dot{Peer: 12, Seq: 12}, Time: 1, Ops: eachOp()[:1]}) })
		add(&may, func(k *api.Kept) { with(k, at, api.Tx{Dot: api.Dot{Peer: 1, Seq: 2 + 9}, Time: 1, Ops: eachOp()[:1]}) })
	}
	for p := range peersMost + 1 {
		for _, n := range []int{-1, 13, seqMost + 1, least, greatest} {
			add(&not, func(k *api.Kept) { k.Pruned[p], k.Log = n, nil })
		}
		if p > 0 {
			add(&may, func(k *api.Kept) { k.Pruned[p], k.Log = 12, nil })
		}
	}
	add(&not, func(k *api.Kept) { k.Pruned = k.Base.Vec })
	add(&not, func(k *api.Kept) {
		k.Pruned = turned(api.Vec{}, func(v *api.Vec) { v[k.Log[last].Dot.Peer] = k.Log[last].Dot.Seq })
	})
	return may, not
}

// wrongKepts are what may not be kept: of a base that may not be, or by its log, what was pruned, or its segment.
func wrongKepts() []any {
	_, not := keptEdges()
	var l []any
	for _, k := range not {
		l = append(l, k)
	}
	for _, c := range slices.Concat(numberEdges(), peerEdges(), vecEdges()) {
		if !c.want {
			k := api.Kept{Base: sound()}
			c.turn(&k.Base)
			l = append(l, k)
		}
	}
	for _, s := range wrongStamps()[:30] {
		l = append(l, api.Kept{Base: turned(sound(), func(x *api.Base) { x.Stamp = s.(api.Stamp) })})
	}
	for _, s := range wrongStores() {
		l = append(l, api.Kept{Base: turned(sound(), func(x *api.Base) { x.Store = s.(api.Store) })})
	}
	return append(l, api.Kept{})
}

// P21.2: what may be kept is put and got: whatever its log's order, its segment at either end, and what was pruned none, some, or all.
func TestKeptEdges(t *testing.T) {
	k := kindsOfAll()[4]
	may, not := keptEdges()
	for _, x := range may {
		if !keptMay(x) {
			t.Fatalf("this one may not be kept: %s", told(x))
		}
		askPut(t, k, []byte("ab"), x)
		askGets(t, k, append(plain(x), 'c'), x, []byte("c"), isOK)
	}
	if len(may) < 20 || len(not) < 100 {
		t.Errorf("%d that may be, %d that may not", len(may), len(not))
	}
}

// longLog answers a log of so many transactions of all peers.
func longLog(n int, l []api.Op) []api.Tx {
	return many(n, func(i int) api.Tx {
		return api.Tx{Dot: api.Dot{Peer: 1 + i%peersMost, Seq: 1 + i/peersMost}, Time: 1 + i, Ops: l}
	})
}

// P21.2, P21.1: a log of 4096 transactions is put and got, also where each of them is as long as one may be; of one more nothing is.
func TestLongLogs(t *testing.T) {
	k := kindsOfAll()[4]
	long := slices.Repeat([]api.Op{{Kind: 6, Key: full(64), Field: full(64), Inner: 3, Act: 3, Text: full(64)}}, 16)
	for _, l := range [][]api.Op{eachOp()[:1], long} {
		for _, n := range []int{0, 1, 4095, 4096, 4097} {
			x := api.Kept{Base: turned(sound(), func(x *api.Base) { x.Vec = all() }), Log: longLog(n, l)}
			if n > listMost {
				askWrong(t, k, x)
				continue
			}
			askPut(t, k, nil, x)
			askGets(t, k, plain(x), x, nil, isOK)
		}
	}
}
