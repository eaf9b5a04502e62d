package pack_test

import (
	"bytes"
	"slices"
	"strings"
	"testing"

	"plexus/api"
	"plexus/pack"
)

// noughts are so many bytes 0.
func noughts(n int) string {
	return strings.Repeat("\x00", n)
}

// askWritten asks whether a value is put as bytes that are written out, behind nothing and behind others, and is got of them again.
func askWritten[T any](t *testing.T, what string, put func([]byte, T) []byte, get func([]byte) (T, []byte, api.Errno), x T, want string) {
	t.Helper()
	for _, ahead := range []string{"", "\x00", "ab", "\xff\x80"} {
		if b := put([]byte(ahead), x); string(b) != ahead+want {
			t.Errorf("%s behind %q: %q, want %q", what, ahead, b, ahead+want)
		}
	}
	for _, behind := range []string{"", "\x00", "\xff\xff", want} {
		got, rest, err := get([]byte(want + behind))
		if err != isOK || string(rest) != behind || !same(got, x) {
			t.Errorf("%s ahead of %q: %+v %q %d", what, behind, got, rest, err)
		}
	}
}

// P21.1, and the chapter's example: a vector is an array of its elements.
func TestVecWritten(t *testing.T) {
	ask := func(v api.Vec, want string) {
		t.Helper()
		askWritten(t, "a vector", pack.PutVec, pack.GetVec, v, want)
	}
	ask(api.Vec{}, noughts(13))
	ask(api.Vec{0, 2}, "\x00\x04"+noughts(11))
	ask(api.Vec{12: 1}, noughts(12)+"\x02")
	ask(api.Vec{0, 63, 64, 100, 8191, 8192, seqMost}, "\x00\x7e\x80\x01\xc8\x01\xfe\x7f\x80\x80\x01\x80\x80\x80\x01"+noughts(6))
	if b := pack.PutVec(nil, api.Vec{}); len(b) != 13 {
		t.Errorf("a vector of zeros: %v", b)
	}
}

// P21.1: a transaction is its Dot, Deps, Time, and its ops behind how many they are; an op its fields as api tells them.
func TestTxWritten(t *testing.T) {
	x := api.Tx{Dot: api.Dot{Peer: 2, Seq: 3}, Deps: api.Vec{0, 1, 2, 12: 64}, Time: 5}
	tell := func(want string, l ...api.Op) {
		t.Helper()
		x.Ops = l
		count := string(rune(2 * len(l)))
		askWritten(t, "a transaction", pack.PutTx, pack.GetTx, x, "\x04\x06\x00\x02\x04"+noughts(9)+"\x80\x01\x0a"+count+want)
	}
	add := "\x02\x02a\x00\x00\x02\x06\x00\x00\x00\x00"
	tell(add, api.Op{Kind: 1, Key: "a", Act: 1, N: 3})
	tell("\x02\x02a\x00\x00\x02\x05\x00\x00\x00\x00", api.Op{Kind: 1, Key: "a", Act: 1, N: -3})
	tell("\x04\x04ab\x00\x00\x06\x00\x06one\x00\x00\x00", api.Op{Kind: 2, Key: "ab", Act: 3, Text: "one"})
	tell("\x06\x02r\x00\x00\x06\x00\x00\x00\x00\x00", api.Op{Kind: 3, Key: "r", Act: 3})
	tell("\x08\x02t\x00\x00\x04\x00\x04\xff\x00\x00\x00\x00", api.Op{Kind: 4, Key: "t", Act: 2, Text: "\xff\x00"})
	tell("\x0a\x02s\x00\x00\x08\x00\x02x\x00\x00\x00"+"\x0a\x02s\x00\x00\x04\x00\x00\x04\x06\x02",
		api.Op{Kind: 5, Key: "s", Act: 4, Text: "x"}, api.Op{Kind: 5, Key: "s", Act: 2, Ref: mk(2, 3, 1)})
	tell("\x0c\x02m\x02f\x0a\x08\x00\x02x\x18\x80\x01\x20", api.Op{Kind: 6, Key: "m", Field: "f", Inner: 5, Act: 4, Text: "x", Ref: mk(12, 64, 16)})
	tell("\x0c\x02m\x02f\x02\x0a\x00\x00\x00\x00\x00"+add, api.Op{Kind: 6, Key: "m", Field: "f", Inner: 1, Act: 5}, api.Op{Kind: 1, Key: "a", Act: 1, N: 3})
	tell("\x0e\x00\x00\x00\x02\x18\x00\x00\x00\x00", api.Op{Kind: 7, Act: 1, N: 12})
	tell(strings.Repeat(add, 16), slices.Repeat([]api.Op{{Kind: 1, Key: "a", Act: 1, N: 3}}, 16)...)
}

// P21.1: a tree is its N, how many Kids it has, and these.
func TestStampWritten(t *testing.T) {
	ask := func(id api.Tree, event api.Tree, want string) {
		t.Helper()
		askWritten(t, "a stamp", pack.PutStamp, pack.GetStamp, api.Stamp{Id: id, Event: event}, want)
	}
	ask(lf(0), lf(0), "\x00\x00\x00\x00")
	ask(lf(1), lf(0), "\x02\x00\x00\x00")
	ask(lf(1), lf(64), "\x02\x00\x80\x01\x00")
	ask(nd(0, lf(1), lf(0)), nd(3, lf(0), lf(2)), "\x00\x04\x02\x00\x00\x00\x06\x04\x00\x00\x04\x00")
	ask(nd(0, lf(0), nd(0, nd(0, lf(1), lf(0)), lf(1))), lf(5), "\x00\x04\x00\x00\x00\x04\x00\x04\x02\x00\x00\x00\x02\x00\x0a\x00")
	ask(deep(depthMost, true, 1, 0), deep(depthMost, false, 2, 0),
		strings.Repeat("\x00\x04", 16)+"\x02\x00"+noughts(32)+strings.Repeat("\x00\x04\x00\x00", 16)+"\x04\x00")
}

// P21.1: a store is its objects, these their fields as api tells them; a leaf has no fields, and a map a cell of zeros.
func TestStoreWritten(t *testing.T) {
	var l []api.Object
	want := ""
	tell := func(bytes string, o api.Object) {
		t.Helper()
		l, want = append(l, o), want+bytes
		askWritten(t, "a store", pack.PutStore, pack.GetStore, api.Store{Objects: []api.Object{o}}, "\x02"+bytes)
		askWritten(t, "a store", pack.PutStore, pack.GetStore, api.Store{Objects: l}, string(rune(2*len(l)))+want)
	}
	askWritten(t, "a store", pack.PutStore, pack.GetStore, api.Store{}, "\x00")
	tell("\x02\x02a"+"\x02\x0d"+"\x04"+"\x02\x04\x06\x01"+"\x04\x02\x02\x08"+"\x00\x00\x00"+"\x00",
		api.Object{Kind: 1, Key: "a", Cell: api.Cell{Kind: 1, Base: -7, Amounts: []api.Amount{{Mark: mk(1, 2, 3), N: -1}, {Mark: mk(2, 1, 1), N: 4}}}})
	tell("\x04\x02b"+"\x04\x00\x00"+"\x02"+"\x02\x02\x02\x80\x01\x04ab"+"\x00\x00"+"\x00",
		api.Object{Kind: 2, Key: "b", Cell: api.Cell{Kind: 2, Writes: []api.Write{{Mark: mk(1, 1, 1), Time: 64, Text: "ab"}}}})
	tell("\x06\x02b"+"\x06\x00\x00"+"\x04"+"\x02\x02\x02\x01\x00"+"\x02\x02\x04\x06\x02x"+"\x00\x00"+"\x00",
		api.Object{Kind: 3, Key: "b", Cell: api.Cell{Kind: 3, Writes: []api.Write{{Mark: mk(1, 1, 1), Time: -1}, {Mark: mk(1, 1, 2), Time: 3, Text: "x"}}}})
	tell("\x08\x02b"+"\x08\x00\x00\x00"+"\x06"+"\x00\x02\x00"+"\x02x\x00\x04\x02\x02\x02\x02\x04\x02"+"\x02y\x02\x02\x06\x06\x06"+"\x00"+"\x00",
		api.Object{Kind: 4, Key: "b", Cell: api.Cell{Kind: 4, Members: []api.Member{{Base: true}, {Text: "x", Marks: []api.Mark{mk(1, 1, 1), mk(1, 2, 1)}}, {Text: "y", Base: true, Marks: []api.Mark{mk(3, 3, 3)}}}}})
	tell("\x0a\x02b"+"\x0a\x00\x00\x00\x00"+"\x04"+"\x02\x02\x02\x0a\x00\x00\x00\x02p\x02\x02\x04\x02"+"\x04\x02\x02\x0c\x02\x02\x02\x00\x00"+"\x00",
		api.Object{Kind: 5, Key: "b", Cell: api.Cell{Kind: 5, Elems: []api.Elem{{Mark: mk(1, 1, 1), Time: 5, Text: "p", Gone: []api.Mark{mk(1, 2, 1)}}, {Mark: mk(2, 1, 1), Time: 6, Ref: mk(1, 1, 1)}}}})
	tell("\x0c\x02b"+"\x00\x00\x00\x00\x00\x00"+"\x06"+"\x02f\x02\x00"+"\x02\x02\x00\x00\x00\x00"+"\x02f\x00\x02\x02\x02\x02"+"\x08\x00\x00\x00\x02\x00\x02\x00\x00"+"\x02g\x02\x02\x04\x04\x04"+"\x04\x00\x00\x00\x00\x00",
		api.Object{Kind: 6, Key: "b", Fields: []api.Field{
			{Name: "f", Base: true, Cell: api.Cell{Kind: 1, Base: 1}},
			{Name: "f", Marks: []api.Mark{mk(1, 1, 1)}, Cell: api.Cell{Kind: 4, Members: []api.Member{{Base: true}}}},
			{Name: "g", Base: true, Marks: []api.Mark{mk(2, 2, 2)}, Cell: api.Cell{Kind: 2}},
		}})
}

// P21.1: what is kept is its base, what was pruned, its log, and its segment, each as api tells them.
func TestKeptWritten(t *testing.T) {
	ask := func(k api.Kept, want string) {
		t.Helper()
		askWritten(t, "what is kept", pack.PutKept, pack.GetKept, k, want)
	}
	ask(api.Kept{Base: api.Base{Self: 1}}, "\x02\x00"+"\x00\x00\x00\x00"+"\x00"+noughts(13)+noughts(13)+"\x00\x00\x00\x00\x00"+noughts(13)+"\x00"+"\x00")
	base := api.Base{
		Self: 3, State: 2, Stamp: api.Stamp{Id: lf(1), Event: lf(2)}, Boot: 4, Vec: api.Vec{0, 5, 1}, Cut: api.Vec{0, 3}, Time: 6,
		Store:  api.Store{Objects: []api.Object{{Kind: 1, Key: "a", Cell: api.Cell{Kind: 1, Base: 9}}}},
		Joined: []int{1, 2, 3}, Left: []int{2}, Heirs: []int{7, 12},
	}
	log := []api.Tx{
		{Dot: api.Dot{Peer: 2, Seq: 1}, Deps: api.Vec{0, 2}, Time: 6, Ops: []api.Op{{Kind: 7, Act: 1, N: 2}}},
		{Dot: api.Dot{Peer: 1, Seq: 5}, Deps: api.Vec{0, 4}, Time: 1, Ops: []api.Op{{Kind: 1, Key: "a", Act: 1}}},
	}
	want := "\x06\x04" + "\x02\x00\x04\x00" + "\x08" + "\x00\x0a\x02" + noughts(10) + "\x00\x06" + noughts(11) + "\x0c" +
		"\x02" + "\x02\x02a\x02\x12\x00\x00\x00\x00\x00" + "\x06\x02\x04\x06" + "\x02\x04" + "\x04\x0e\x18" + "\x00\x04" + noughts(11) +
		"\x04" + "\x04\x02\x00\x04" + noughts(11) + "\x0c\x02" + "\x0e\x00\x00\x00\x02\x04\x00\x00\x00\x00" +
		"\x02\x0a\x00\x08" + noughts(11) + "\x02\x02" + "\x02\x02a\x00\x00\x02\x00\x00\x00\x00\x00" + "\x10"
	ask(api.Kept{Base: base, Pruned: api.Vec{0, 2}, Log: log, Seg: 8}, want)
}

// P21.1, P21.3: values of all kinds are put as the chapter's words have it, and got again, behind bytes and ahead of bytes.
func TestPutAndGet(t *testing.T) {
	eachKind(t, func(t *testing.T, k kind) {
		for _, x := range k.values {
			if !k.may(x) {
				t.Fatalf("this one may not be: %+v", x)
			}
			for _, ahead := range [][]byte{nil, {}, {0}, []byte("ab"), bytes.Repeat([]byte{255}, 100)} {
				askPut(t, k, ahead, x)
			}
			b := plain(x)
			for _, behind := range [][]byte{nil, {0}, {255, 255}, bytes.Repeat([]byte{128}, 20), b} {
				askGets(t, k, slices.Concat(b, behind), x, behind, isOK)
			}
		}
	})
}

// P21.1: what is put one behind the other is got one behind the other, whatever it is.
func TestSeveral(t *testing.T) {
	var b []byte
	each := kindsOfAll()
	for _, k := range each {
		for _, x := range k.values {
			b = k.put(b, x)
		}
	}
	for _, k := range each {
		for _, x := range k.values {
			got, rest, err := k.get(b)
			if err != isOK || !same(got, x) {
				t.Fatalf("%s: %+v %d, want %+v", k.name, got, err, x)
			}
			b = rest
		}
	}
	if len(b) != 0 {
		t.Errorf("%d bytes are left", len(b))
	}
}

// P21.1: bytes that are cut short at any place are ErrShort, and zeros beside.
func TestCutShort(t *testing.T) {
	eachKind(t, func(t *testing.T, k kind) {
		askRefused(t, k, nil, isShort)
		for _, x := range k.values {
			b := plain(x)
			for n := range len(b) {
				askRefused(t, k, b[:n], isShort)
			}
		}
	})
}

// P21.1: bytes of which some are what may not be, but which end too soon, are short: what is read may not be only when it was read.
func TestCutShortAndWrong(t *testing.T) {
	short := func(name string, get func([]byte) api.Errno, b []byte) {
		t.Helper()
		for n := range len(b) {
			if err := get(b[:n]); err != isShort {
				t.Errorf("%s, %d of %d bytes: %d", name, n, len(b), err)
			}
		}
		if err := get(b); err != isForm {
			t.Errorf("%s: %d", name, err)
		}
	}
	short("a vector with one of 0", func(b []byte) api.Errno { _, _, e := pack.GetVec(b); return e }, plain(api.Vec{1, 2, 3}))
	short("a transaction of nobody", func(b []byte) api.Errno { _, _, e := pack.GetTx(b); return e }, plain(api.Tx{Ops: eachOp()}))
	short("an identity of 2", func(b []byte) api.Errno { _, _, e := pack.GetStamp(b); return e }, plain(api.Stamp{Id: lf(2), Event: nd(0, lf(0), lf(1))}))
	short("a store that does not rise", func(b []byte) api.Errno { _, _, e := pack.GetStore(b); return e }, plain(api.Store{Objects: slices.Repeat(everyObject()[:1], 2)}))
	k := kepts()[3]
	k.Base.Self, k.Base.Vec[0] = 0, -1
	short("what is kept by nobody", func(b []byte) api.Errno { _, _, e := pack.GetKept(b); return e }, plain(k))
}
