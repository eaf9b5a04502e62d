package copies_test

import (
	"reflect"
	"slices"
	"testing"

	"plexus/api"
	"plexus/copies"
)

// mark answers a Mark.
func mark(peer int, seq int, index int) api.Mark {
	return api.Mark{Dot: api.Dot{Peer: peer, Seq: seq}, Index: index}
}

// full answers a cell with something in each list, made anew each time.
func full() api.Cell {
	return api.Cell{
		Kind:    9,
		Base:    -4,
		Amounts: []api.Amount{{Mark: mark(1, 1, 1), N: 3}, {}},
		Writes:  []api.Write{{Mark: mark(1, 2, 1), Time: 5, Text: "w"}, {}},
		Members: []api.Member{{Text: "m", Base: true, Marks: []api.Mark{mark(1, 3, 1), mark(1, 3, 2)}}, {}},
		Elems:   []api.Elem{{Mark: mark(1, 4, 1), Time: 6, Ref: mark(1, 4, 0), Text: "e", Gone: []api.Mark{mark(1, 5, 1)}}, {}},
	}
}

// spoil writes over all that a cell's lists hold.
func spoil(c api.Cell) {
	c.Amounts[0].N, c.Writes[0].Text = 77, "spoilt"
	c.Members[0].Marks[1], c.Elems[0].Gone[0] = mark(7, 7, 7), mark(7, 7, 7)
	c.Members[0].Text, c.Elems[0].Text = "spoilt", "spoilt"
	c.Members[1].Marks, c.Elems[1].Gone = []api.Mark{{}}, []api.Mark{{}}
}

// R3: a copy is the same, whatever the cell is.
func TestCellIsTheSame(t *testing.T) {
	for _, c := range []api.Cell{{}, {Kind: api.Counter, Base: 5}, full()} {
		if got := copies.Cell(c); !reflect.DeepEqual(got, c) {
			t.Errorf("%+v, want %+v", got, c)
		}
	}
}

// R3: neither is changed by what is done to the other one's lists, inner ones too.
func TestCellSharesNothing(t *testing.T) {
	given := full()
	got := copies.Cell(given)
	spoil(got)
	if !reflect.DeepEqual(given, full()) {
		t.Errorf("the argument: %+v", given)
	}
	got = copies.Cell(given)
	spoil(given)
	if !reflect.DeepEqual(got, full()) {
		t.Errorf("the copy: %+v", got)
	}
}

// R3, R7: nothing is appended to the room behind a list that was handed in.
func TestCellHasItsOwnRoom(t *testing.T) {
	room := []api.Write{{Text: "a"}, {Text: "behind"}}
	got := copies.Cell(api.Cell{Writes: room[:1]})
	got.Writes = append(got.Writes, api.Write{Text: "b"})
	empty := copies.Cell(api.Cell{Writes: room[:0]})
	empty.Writes = append(empty.Writes, api.Write{Text: "b"})
	if room[0].Text != "a" || room[1].Text != "behind" {
		t.Errorf("%+v", room)
	}
}

// fields answers two fields with something in each list, made anew each time.
func fields() []api.Field {
	return []api.Field{{Name: "f", Base: true, Marks: []api.Mark{mark(1, 6, 1), mark(1, 6, 2)}, Cell: full()}, {Cell: full()}}
}

// spoilFields writes over all that fields, and their lists, hold.
func spoilFields(l []api.Field) {
	for _, f := range l {
		spoil(f.Cell)
	}
	l[0].Marks[1] = mark(7, 7, 7)
	l[0].Name, l[0].Base, l[1].Marks = "spoilt", false, []api.Mark{{}}
	l[1].Cell = api.Cell{}
}

// R3: a copy of fields is the same, whatever they are.
func TestFieldsAreTheSame(t *testing.T) {
	for _, l := range [][]api.Field{nil, {}, {{}}, fields()} {
		if got := copies.Fields(l); !reflect.DeepEqual(got, l) {
			t.Errorf("%+v, want %+v", got, l)
		}
	}
}

// R3: neither of two lists of fields is changed by what is done to the other one, inner lists too.
func TestFieldsShareNothing(t *testing.T) {
	given := fields()
	got := copies.Fields(given)
	spoilFields(got)
	if !reflect.DeepEqual(given, fields()) {
		t.Errorf("the argument: %+v", given)
	}
	got = copies.Fields(given)
	spoilFields(given)
	if !reflect.DeepEqual(got, fields()) {
		t.Errorf("the copy: %+v", got)
	}
}

// R3, R7: nothing is appended to the room behind a list of fields, nor behind their marks.
func TestFieldsHaveTheirOwnRoom(t *testing.T) {
	marks := []api.Mark{mark(1, 1, 1), mark(2, 2, 2)}
	room := []api.Field{{Name: "a", Marks: marks[:1]}, {Name: "behind"}}
	got := copies.Fields(room[:1])
	got[0].Marks = append(got[0].Marks, mark(7, 7, 7))
	got = append(got, api.Field{Name: "b"})
	none := copies.Fields(room[:0])
	none = append(none, api.Field{Name: "b"})
	if room[0].Name != "a" || room[1].Name != "behind" || marks[1] != mark(2, 2, 2) {
		t.Errorf("%+v, %+v", room, marks)
	}
}

// object answers an object with something in each list, made anew each time.
func object() api.Object {
	return api.Object{Kind: 8, Key: "k", Cell: full(), Fields: fields()}
}

// spoilObject writes over all that an object's lists hold.
func spoilObject(o api.Object) {
	spoil(o.Cell)
	spoilFields(o.Fields)
}

// R3: a copy of an object is the same, whatever it is.
func TestObjectIsTheSame(t *testing.T) {
	for _, o := range []api.Object{{}, {Kind: api.Map, Key: "m", Fields: []api.Field{}}, {Key: "c", Cell: full()}, object()} {
		if got := copies.Object(o); !reflect.DeepEqual(got, o) {
			t.Errorf("%+v, want %+v", got, o)
		}
	}
}

// R3: neither of two objects is changed by what is done to the other one's lists, inner ones too.
func TestObjectSharesNothing(t *testing.T) {
	given := object()
	got := copies.Object(given)
	spoilObject(got)
	if !reflect.DeepEqual(given, object()) {
		t.Errorf("the argument: %+v", given)
	}
	got = copies.Object(given)
	spoilObject(given)
	if !reflect.DeepEqual(got, object()) {
		t.Errorf("the copy: %+v", got)
	}
}

// R3, R7: nothing is appended to the room behind an object's lists.
func TestObjectHasItsOwnRoom(t *testing.T) {
	fields := []api.Field{{Name: "a"}, {Name: "behind"}}
	writes := []api.Write{{Text: "a"}, {Text: "behind"}}
	for n := range 2 {
		got := copies.Object(api.Object{Cell: api.Cell{Writes: writes[:n]}, Fields: fields[:n]})
		got.Fields = append(got.Fields, api.Field{Name: "b"})
		got.Cell.Writes = append(got.Cell.Writes, api.Write{Text: "b"})
	}
	if fields[0].Name != "a" || fields[1].Name != "behind" || writes[0].Text != "a" || writes[1].Text != "behind" {
		t.Errorf("%+v, %+v", fields, writes)
	}
}

// store answers a store with something in each list, made anew each time.
func store() api.Store {
	return api.Store{Objects: []api.Object{object(), {Kind: 1, Key: "l", Cell: full()}, object()}}
}

// spoilStore writes over all that a store's lists hold.
func spoilStore(s api.Store) {
	spoilObject(s.Objects[0])
	spoilObject(s.Objects[2])
	spoil(s.Objects[1].Cell)
	s.Objects[0].Key, s.Objects[1] = "spoilt", api.Object{}
}

// R3: a copy of a store is the same, whatever it is.
func TestStoreIsTheSame(t *testing.T) {
	for _, s := range []api.Store{{}, {Objects: []api.Object{}}, {Objects: []api.Object{{}}}, store()} {
		if got := copies.Store(s); !reflect.DeepEqual(got, s) {
			t.Errorf("%+v, want %+v", got, s)
		}
	}
}

// R3: neither of two stores is changed by what is done to the other one's lists, inner ones too.
func TestStoreSharesNothing(t *testing.T) {
	given := store()
	got := copies.Store(given)
	spoilStore(got)
	if !reflect.DeepEqual(given, store()) {
		t.Errorf("the argument: %+v", given)
	}
	got = copies.Store(given)
	spoilStore(given)
	if !reflect.DeepEqual(got, store()) {
		t.Errorf("the copy: %+v", got)
	}
}

// R3, R7: nothing is appended to the room behind a store's objects.
func TestStoreHasItsOwnRoom(t *testing.T) {
	room := []api.Object{{Key: "a"}, {Key: "behind"}}
	for n := range 2 {
		got := copies.Store(api.Store{Objects: room[:n]})
		got.Objects = append(got.Objects, api.Object{Key: "b"})
	}
	if room[0].Key != "a" || room[1].Key != "behind" {
		t.Errorf("%+v", room)
	}
}

// txs answers transactions with ops, made anew each time; the last one has none.
func txs() []api.Tx {
	ops := []api.Op{{Kind: 1, Key: "a", Act: 1, N: 3}, {Kind: 9, Text: "t", Ref: mark(1, 1, 1)}}
	return []api.Tx{{Dot: api.Dot{Peer: 1, Seq: 2}, Deps: api.Vec{1: 1, 4: 7}, Time: 5, Ops: ops}, {Time: -1, Ops: []api.Op{{}}}, {}}
}

// spoilTxs writes over all that transactions, and their ops, hold.
func spoilTxs(l []api.Tx) {
	for k := range l {
		for i := range l[k].Ops {
			l[k].Ops[i] = api.Op{Text: "spoilt"}
		}
		l[k] = api.Tx{Time: 77}
	}
}

// R3: copies of a transaction, and of several, are the same, whatever they are.
func TestTxsAreTheSame(t *testing.T) {
	for _, l := range [][]api.Tx{nil, {}, {{}}, {{Ops: []api.Op{}}}, txs()} {
		if got := copies.Txs(l); !reflect.DeepEqual(got, l) {
			t.Errorf("%+v, want %+v", got, l)
		}
		for _, x := range l {
			if got := copies.Tx(x); !reflect.DeepEqual(got, x) {
				t.Errorf("%+v, want %+v", got, x)
			}
		}
	}
}

// R3: neither of two lists of transactions is changed by what is done to the other one, their ops too; nor is one transaction.
func TestTxsShareNothing(t *testing.T) {
	given := txs()
	got, one := copies.Txs(given), copies.Tx(given[0])
	spoilTxs(got)
	spoilTxs([]api.Tx{one})
	if !reflect.DeepEqual(given, txs()) {
		t.Errorf("the argument: %+v", given)
	}
	got, one = copies.Txs(given), copies.Tx(given[0])
	spoilTxs(given)
	if !reflect.DeepEqual(got, txs()) || !reflect.DeepEqual(one, txs()[0]) {
		t.Errorf("the copies: %+v, %+v", got, one)
	}
}

// R3: transactions that have one list of ops are answered with one each.
func TestTxsOfOneList(t *testing.T) {
	ops := []api.Op{{N: 1}, {N: 2}}
	got := copies.Txs([]api.Tx{{Ops: ops}, {Ops: ops}})
	got[0].Ops[0].N = 77
	if got[1].Ops[0].N != 1 || ops[0].N != 1 {
		t.Errorf("%+v, %+v", got, ops)
	}
}

// R3, R7: nothing is appended to the room behind a list of transactions, nor behind their ops.
func TestTxsHaveTheirOwnRoom(t *testing.T) {
	ops := []api.Op{{Text: "a"}, {Text: "behind"}}
	room := []api.Tx{{Time: 1}, {Time: 2}}
	for n := range 2 {
		one := copies.Tx(api.Tx{Ops: ops[:n]})
		one.Ops = append(one.Ops, api.Op{Text: "b"})
		room[0].Ops = ops[:n]
		got := copies.Txs(room[:n])
		for k := range got {
			got[k].Ops = append(got[k].Ops, api.Op{Text: "b"})
		}
		got = append(got, api.Tx{Time: 77})
	}
	if room[0].Time != 1 || room[1].Time != 2 || ops[0].Text != "a" || ops[1].Text != "behind" {
		t.Errorf("%+v, %+v", room, ops)
	}
}

// disk answers a disk with files, made anew each time; the last one has no bytes.
func disk() api.Disk {
	return api.Disk{Files: []api.File{{Name: "a", Data: []byte("ab"), Safe: 1}, {Name: "", Data: []byte("c"), Safe: -4}, {Safe: 9}}, Room: -1, Arm: -7, Dead: true}
}

// spoilDisk writes over all that a disk's lists hold.
func spoilDisk(d api.Disk) {
	d.Files[0].Data[1], d.Files[1].Data[0] = '!', '!'
	d.Files[0].Safe, d.Files[1], d.Files[2].Data = 77, api.File{Name: "spoilt"}, []byte("!")
}

// R3: a copy of a disk is the same, whatever it is.
func TestDiskIsTheSame(t *testing.T) {
	for _, d := range []api.Disk{{}, {Files: []api.File{}, Room: 5}, {Files: []api.File{{Data: []byte{}}}, Arm: 3}, disk()} {
		if got := copies.Disk(d); !reflect.DeepEqual(got, d) {
			t.Errorf("%+v, want %+v", got, d)
		}
	}
}

// R3: neither of two disks is changed by what is done to the other one's lists, their files' bytes too.
func TestDiskSharesNothing(t *testing.T) {
	given := disk()
	got := copies.Disk(given)
	spoilDisk(got)
	if !reflect.DeepEqual(given, disk()) {
		t.Errorf("the argument: %+v", given)
	}
	got = copies.Disk(given)
	spoilDisk(given)
	if !reflect.DeepEqual(got, disk()) {
		t.Errorf("the copy: %+v", got)
	}
}

// R3, R7: nothing is appended to the room behind a disk's files, nor behind their bytes; files that have one list of bytes are answered with one each.
func TestDiskHasItsOwnRoom(t *testing.T) {
	data := []byte("ab")
	room := []api.File{{Name: "a", Data: data[:1]}, {Name: "b", Data: data[:1]}, {Name: "behind"}}
	for n := range 3 {
		got := copies.Disk(api.Disk{Files: room[:n]})
		for i := range got.Files {
			got.Files[i].Data[0]++
			got.Files[i].Data = append(got.Files[i].Data, '!')
			if string(got.Files[i].Data) != "b!" {
				t.Errorf("file %d: %q", i, got.Files[i].Data)
			}
		}
		got.Files = append(got.Files, api.File{Name: "c"})
	}
	if room[0].Name != "a" || room[2].Name != "behind" || string(data) != "ab" {
		t.Errorf("%+v, %q", room, data)
	}
}

// tree answers a tree with Kids of all lengths, made anew each time.
func tree() api.Tree {
	return api.Tree{N: 5, Kids: []api.Tree{{N: -1}, {N: 2, Kids: []api.Tree{{}, {N: 3}, {N: 4, Kids: []api.Tree{{N: 9}}}}}, {Kids: []api.Tree{}}}}
}

// spoilTree writes over all that a tree's Kids hold, from below.
func spoilTree(t api.Tree) {
	for i, k := range t.Kids {
		spoilTree(k)
		t.Kids[i].N += 77
	}
}

// R3: a copy of a tree is the same, whatever it is, and shares no Kids with it.
func TestTree(t *testing.T) {
	for _, x := range []api.Tree{{}, {N: -7}, {Kids: []api.Tree{}}, {Kids: make([]api.Tree, 3)}, tree()} {
		if got := copies.Tree(x); !reflect.DeepEqual(got, x) {
			t.Errorf("%+v, want %+v", got, x)
		}
	}
	given := tree()
	got := copies.Tree(given)
	spoilTree(got)
	if !reflect.DeepEqual(given, tree()) {
		t.Errorf("the argument: %+v", given)
	}
	got = copies.Tree(given)
	spoilTree(given)
	if !reflect.DeepEqual(got, tree()) {
		t.Errorf("the copy: %+v", got)
	}
}

// chain answers a tree of so many parts within one another below it.
func chain(n int) api.Tree {
	t := api.Tree{N: 1}
	for range n {
		t = api.Tree{Kids: []api.Tree{t}}
	}
	return t
}

// R1: of trees that end there is a copy, up to 2^16 parts deep, and of many parts; one without end, or of more parts than anybody can tell, is answered as zero.
func TestTreeEnds(t *testing.T) {
	wide, long := api.Tree{Kids: make([]api.Tree, 1<<16)}, chain(1<<16)
	for i := range wide.Kids {
		wide.Kids[i].N = i
	}
	for i, x := range []api.Tree{wide, long} {
		if got := copies.Tree(x); !reflect.DeepEqual(got, x) {
			t.Errorf("tree %d is not the same", i)
		}
	}
	ring := make([]api.Tree, 2)
	ring[1].Kids = ring
	// Each list stands in all places of the one above it: there are 2^24 and some more.
	beyond := api.Tree{Kids: slices.Repeat([]api.Tree{{Kids: slices.Repeat([]api.Tree{{Kids: make([]api.Tree, 256)}}, 256)}}, 256)}
	bush := api.Tree{N: 1}
	for range 60 {
		bush = api.Tree{Kids: []api.Tree{bush, bush}}
	}
	for i, x := range []api.Tree{beyond, chain(1<<16 + 1), {N: 3, Kids: ring}, ring[1], bush} {
		if got := copies.Tree(x); got.N != 0 || got.Kids != nil {
			t.Errorf("tree %d: %d, %d Kids", i, got.N, len(got.Kids))
		}
	}
}

// kept answers what is kept with something in each list, made anew each time.
func kept() api.Kept {
	return api.Kept{
		Base: api.Base{
			Self: -1, State: 9, Stamp: api.Stamp{Id: tree(), Event: tree()}, Boot: 4, Vec: api.Vec{1, 2, 3}, Cut: api.Vec{5: 7}, Time: -8,
			Store: store(), Joined: []int{1, 1, 0}, Left: []int{2, -3}, Heirs: []int{99},
		},
		Pruned: api.Vec{12: 6}, Log: txs(), Seg: -5,
	}
}

// spoilKept writes over all that the lists of what is kept hold.
func spoilKept(k api.Kept) {
	spoilTree(k.Base.Stamp.Id)
	spoilTree(k.Base.Stamp.Event)
	spoilStore(k.Base.Store)
	k.Base.Joined[1], k.Base.Left[0], k.Base.Heirs[0] = 77, 77, 77
	spoilTxs(k.Log)
}

// R3: a copy of what is kept, and of its base, is the same, whatever it is.
func TestKeptIsTheSame(t *testing.T) {
	for _, k := range []api.Kept{{}, {Base: api.Base{Joined: []int{}}, Log: []api.Tx{}}, {Log: []api.Tx{{}}}, kept()} {
		if got := copies.Kept(k); !reflect.DeepEqual(got, k) {
			t.Errorf("%+v, want %+v", got, k)
		}
		if got := copies.Base(k.Base); !reflect.DeepEqual(got, k.Base) {
			t.Errorf("%+v, want %+v", got, k.Base)
		}
	}
}

// R3: neither of two that are kept is changed by what is done to the other one's lists, their base's among them.
func TestKeptSharesNothing(t *testing.T) {
	given := kept()
	got := copies.Kept(given)
	spoilKept(got)
	if !reflect.DeepEqual(given, kept()) {
		t.Errorf("the argument: %+v", given)
	}
	spoilKept(api.Kept{Base: copies.Base(given.Base), Log: txs()})
	if !reflect.DeepEqual(given, kept()) {
		t.Errorf("the argument: %+v", given)
	}
	got = copies.Kept(given)
	alone := copies.Base(given.Base)
	spoilKept(given)
	if !reflect.DeepEqual(got, kept()) || !reflect.DeepEqual(alone, kept().Base) {
		t.Errorf("the copies: %+v, %+v", got, alone)
	}
}

// R3, R7: nothing is appended to the room behind the lists of what is kept.
func TestKeptHasItsOwnRoom(t *testing.T) {
	peers, log, kids := []int{1, 2}, []api.Tx{{Time: 1}, {Time: 2}}, []api.Tree{{N: 1}, {N: 2}}
	for n := range 2 {
		k := api.Kept{Base: api.Base{Stamp: api.Stamp{Id: api.Tree{Kids: kids[:n]}, Event: api.Tree{Kids: kids[:n]}}, Joined: peers[:n], Left: peers[:n], Heirs: peers[:n]}, Log: log[:n]}
		k = copies.Kept(k)
		for _, l := range []*[]int{&k.Base.Joined, &k.Base.Left, &k.Base.Heirs} {
			*l = append(*l, 77)
		}
		for _, x := range []*api.Tree{&k.Base.Stamp.Id, &k.Base.Stamp.Event} {
			x.Kids = append(x.Kids, api.Tree{N: 77})
		}
		k.Log = append(k.Log, api.Tx{Time: 77})
	}
	if peers[0] != 1 || peers[1] != 2 || log[0].Time != 1 || log[1].Time != 2 || kids[0].N != 1 || kids[1].N != 2 {
		t.Errorf("%v, %+v, %+v", peers, log, kids)
	}
}

// R3: a copy of views is the same, whatever they are, and shares neither list with them.
func TestViews(t *testing.T) {
	views := func() api.Views { return api.Views{Self: -3, Active: []int{9, 9, 0}, Passive: []int{-1}} }
	for _, v := range []api.Views{{}, {Self: 5, Active: []int{}}, {Passive: []int{}}, views()} {
		if got := copies.Views(v); !reflect.DeepEqual(got, v) {
			t.Errorf("%+v, want %+v", got, v)
		}
	}
	given := views()
	got := copies.Views(given)
	got.Active[1], got.Passive[0] = 77, 77
	if !reflect.DeepEqual(given, views()) {
		t.Errorf("the argument: %+v", given)
	}
	got = copies.Views(given)
	given.Active[1], given.Passive[0] = 77, 77
	if !reflect.DeepEqual(got, views()) {
		t.Errorf("the copy: %+v", got)
	}
}

// R3, R7: nothing is appended to the room behind views' lists; one list that is both is answered as two.
func TestViewsHaveTheirOwnRoom(t *testing.T) {
	room := []int{1, 2}
	for n := range 2 {
		got := copies.Views(api.Views{Active: room[:n], Passive: room[:n]})
		got.Active, got.Passive = append(got.Active, 77), append(got.Passive, 78)
		if got.Active[n] != 77 {
			t.Errorf("%+v", got)
		}
	}
	if room[0] != 1 || room[1] != 2 {
		t.Errorf("%v", room)
	}
}
