package txlog_test

import (
	"encoding/binary"
	"hash/crc32"
	"math"
	"slices"
	"strconv"
	"strings"
	"testing"

	"plexus/api"
	"plexus/disk"
	"plexus/order"
	"plexus/pack"
	"plexus/roster"
	"plexus/store"
	"plexus/txlog"
)

// seg answers what is kept, but for its Seg.
func seg(k api.Kept, n int) api.Kept {
	k.Seg = n
	return k
}

// taken answers what the document says of a Take.
func taken(k api.Kept, x api.Tx) (api.Kept, bool) {
	if !order.Ready(k.Base.Vec, x) || len(k.Log) >= logMost || !pack.CheckBase(k.Base) {
		return k, false
	}
	var err api.Errno
	k.Base.Vec[x.Dot.Peer]++
	if x.Time > k.Base.Time {
		k.Base.Time = x.Time
	}
	k.Base.Store, err = store.Apply(k.Base.Store, x)
	k.Base.Joined, k.Base.Left = roster.Apply(k.Base.Joined, k.Base.Left, x)
	k.Log = append(slices.Clone(k.Log), x)
	return k, err == api.OK
}

// foldOf answers what is kept behind these transactions, each of which is taken.
func foldOf(k api.Kept, l ...api.Tx) api.Kept {
	for _, x := range l {
		next, ok := taken(k, x)
		if !ok {
			panic("it is not taken: " + shown(x))
		}
		k = next
	}
	return k
}

// opened answers what is sealed.
func opened(b []byte) ([]byte, bool) {
	n := len(b) - 4
	if n < 0 || binary.LittleEndian.Uint32(b[n:]) != crc32.ChecksumIEEE(b[:n]) {
		return nil, false
	}
	return b[:n], true
}

// bodyOf answers the body of the record that stands first, and what is behind it.
func bodyOf(b []byte) ([]byte, []byte, bool) {
	if len(b) < 8 {
		return nil, b, false
	}
	n := int64(binary.BigEndian.Uint32(b)) + 8
	if n > 60008 || n > int64(len(b)) {
		return nil, b, false
	}
	body, ok := opened(b[4:n])
	return body, b[n:], ok
}

// loaded answers what the document says of a Load.
func loaded(d api.Disk) (api.Kept, api.Errno) {
	b, err := disk.Read(d, "base")
	if err != api.OK {
		return api.Kept{}, err
	}
	b, ok := opened(b)
	k, rest, err := pack.GetKept(b)
	if !ok || err != api.OK || len(rest) > 0 {
		return api.Kept{}, api.ErrSum
	}
	greatest := k.Seg - 1
	for _, f := range d.Files {
		n, err := strconv.Atoi(strings.TrimPrefix(f.Name, "log"))
		if err == nil && n > greatest && n <= segMost && f.Name == "log"+strconv.Itoa(n) {
			greatest = n
		}
	}
	return seg(behindSegments(d, k), greatest+1), api.OK
}

// behindSegments answers what is kept behind all that is loaded of the segments.
func behindSegments(d api.Disk, k api.Kept) api.Kept {
	for n := k.Seg; n <= segMost; n++ {
		// A segment that is not there has no records.
		b, _ := disk.Read(d, "log"+strconv.Itoa(n))
		for count := 0; ; count++ {
			body, behind, ok := bodyOf(b)
			if !ok {
				if count != perSegment || len(b) > 0 {
					return k
				}
				break
			}
			x, rest, err := pack.GetTx(body)
			if err != api.OK || len(rest) > 0 {
				return k
			}
			if k, ok = taken(k, x); !ok {
				return k
			}
			b = behind
		}
	}
	return k
}

// askLoad asks a Load, and holds it against what is wanted, and against what the document says.
func askLoad(t *testing.T, d api.Disk, want api.Kept, wantErr api.Errno) {
	t.Helper()
	was := shown(d)
	got, err := txlog.Load(d)
	if err != wantErr || !same(got, want) {
		t.Errorf("Load of %s = %s, %d, want %s, %d", brief(was), brief(shown(got)), err, brief(shown(want)), wantErr)
	}
	if told, toldErr := loaded(d); toldErr != wantErr || !same(told, want) {
		t.Errorf("the document says of %s: %s, %d, and not %s, %d", brief(was), brief(shown(told)), toldErr, brief(shown(want)), wantErr)
	}
	if shown(d) != was {
		t.Errorf("Load changed what it was handed: %s", brief(was))
	}
}

// askTake asks a Take.
func askTake(t *testing.T, k api.Kept, x api.Tx, want api.Kept, wantOk bool) {
	t.Helper()
	was := shown(k) + shown(x)
	got, ok := txlog.Take(k, x)
	if ok != wantOk || !same(got, want) {
		t.Errorf("Take of %s to %s = %s, %t, want %s, %t", brief(shown(x)), brief(shown(k)), brief(shown(got)), ok, brief(shown(want)), wantOk)
	}
	if shown(k)+shown(x) != was {
		t.Errorf("Take changed what it was handed: %s", brief(was))
	}
}

// withBase answers a disk with a checkpoint, and segments that have these bytes, from its Seg on.
func withBase(k api.Kept, segments ...string) api.Disk {
	files := []api.File{whole("base", base(k))}
	for i, b := range segments {
		files = append(files, whole("log"+strconv.Itoa(k.Seg+i), b))
	}
	return of(files...)
}

// P24.2, Take: each field, written out.
func TestTake(t *testing.T) {
	k := fresh(5)
	k.Base.Vec, k.Base.Cut, k.Base.Time, k.Base.Left, k.Base.Heirs = api.Vec{0, 4, 2}, api.Vec{0, 1}, 44, []int{9}, []int{3}
	k.Pruned, k.Log = api.Vec{0, 3, 2}, []api.Tx{add(1, 4, api.Vec{}, 8)}
	x := add(1, 5, api.Vec{0, 0, 2}, 7)
	x.Time = 51
	x.Ops = append(x.Ops, api.Op{Kind: api.Roster, Act: api.ActAdd, N: 12}, api.Op{Kind: api.Roster, Act: api.ActDel, N: 1}, api.Op{Kind: api.Counter, Key: "a", Act: api.ActAdd, N: -2})
	want := api.Kept{
		Base: api.Base{
			Self: 2, State: 1, Stamp: api.Stamp{Id: api.Tree{N: 1}}, Boot: 3, Vec: api.Vec{0, 5, 2}, Cut: api.Vec{0, 1}, Time: 51,
			Store: api.Store{Objects: []api.Object{{Kind: 1, Key: "a", Cell: api.Cell{Kind: 1, Amounts: []api.Amount{
				{Mark: api.Mark{Dot: x.Dot, Index: 1}, N: 7}, {Mark: api.Mark{Dot: x.Dot, Index: 4}, N: -2},
			}}}}},
			Joined: []int{1, 2, 12}, Left: []int{1, 9}, Heirs: []int{3},
		},
		Pruned: api.Vec{0, 3, 2}, Log: []api.Tx{add(1, 4, api.Vec{}, 8), x}, Seg: 5,
	}
	askTake(t, k, x, want, true)
	// Of times the greater one is told.
	for _, times := range [][3]int{{44, 1, 44}, {44, 44, 44}, {44, 45, 45}, {0, 1, 1}, {api.MaxTime, 1, api.MaxTime}, {0, api.MaxTime, api.MaxTime}} {
		k.Base.Time, x.Time, want.Base.Time, want.Log[1].Time = times[0], times[1], times[2], times[1]
		askTake(t, k, x, want, true)
	}
}

// P24.2, Take: transactions in a row, each behind the others, and each not once more.
func TestTakeInARow(t *testing.T) {
	k := fresh(0)
	for i, x := range line(40) {
		want, _ := taken(k, x)
		askTake(t, k, x, want, true)
		if !pack.CheckBase(want.Base) || pack.PutKept(nil, want) == nil || want.Base.Store.Objects[0].Cell.Amounts[i/3].N == 0 {
			t.Errorf("behind %d: %s", i, brief(shown(want)))
		}
		k, _ = txlog.Take(k, x)
		for _, y := range line(i + 1) {
			askTake(t, k, y, k, false)
		}
	}
}

// P24.2, Take: what is not Ready is not taken.
func TestTakeOfWhatIsNotReady(t *testing.T) {
	k := foldOf(fresh(0), line(7)...)
	if k.Base.Vec != (api.Vec{0, 3, 2, 2}) {
		t.Fatal(k.Base.Vec)
	}
	good := add(2, 3, api.Vec{0, 3, 2, 2}, 1)
	wanted, _ := taken(k, good)
	askTake(t, k, good, wanted, true)
	for _, turn := range []func(x *api.Tx){
		func(x *api.Tx) { x.Dot.Seq = 2 }, func(x *api.Tx) { x.Dot.Seq = 1 }, func(x *api.Tx) { x.Dot.Seq = 4 }, func(x *api.Tx) { x.Dot.Peer = 1 }, func(x *api.Tx) { x.Dot.Peer = 4 },
		func(x *api.Tx) { x.Dot = api.Dot{} }, func(x *api.Tx) { x.Dot.Peer = 0 }, func(x *api.Tx) { x.Dot.Peer = 13 }, func(x *api.Tx) { x.Dot.Peer = -1 }, func(x *api.Tx) { x.Dot.Peer = math.MaxInt }, func(x *api.Tx) { x.Dot.Seq = math.MinInt },
		func(x *api.Tx) { x.Deps[1] = 4 }, func(x *api.Tx) { x.Deps[4] = 1 }, func(x *api.Tx) { x.Deps[2] = 3 }, func(x *api.Tx) { x.Deps[0] = 1 }, func(x *api.Tx) { x.Deps[1] = -1 }, func(x *api.Tx) { x.Deps[12] = math.MaxInt },
		func(x *api.Tx) { x.Time = 0 }, func(x *api.Tx) { x.Time = -1 }, func(x *api.Tx) { x.Time = api.MaxTime + 1 },
		func(x *api.Tx) { x.Ops = nil }, func(x *api.Tx) { x.Ops = slices.Repeat(x.Ops, 17) }, func(x *api.Tx) { x.Ops = []api.Op{{Kind: 1, Act: 1}} }, func(x *api.Tx) { x.Ops = []api.Op{{Kind: 7, Act: 1, N: 13}} },
	} {
		x := add(2, 3, api.Vec{0, 3, 2, 2}, 1)
		turn(&x)
		askTake(t, k, x, k, false)
		askTake(t, api.Kept{}, x, api.Kept{}, false)
	}
	// One transaction behind the last one that there may be.
	k.Base.Vec[2] = api.MaxSeq
	askTake(t, k, add(2, api.MaxSeq+1, api.Vec{}, 1), k, false)
	k.Base.Vec[2]--
	wanted, _ = taken(k, add(2, api.MaxSeq, api.Vec{}, 1))
	wanted.Base.Vec[2] = api.MaxSeq
	askTake(t, k, add(2, api.MaxSeq, api.Vec{}, 1), wanted, true)
}

// P24.2, Take: a log of 4095 takes one more, and one of 4096 or more none.
func TestTakeToAFullLog(t *testing.T) {
	k := fresh(0)
	k.Base.Vec = api.Vec{0, logMost + 1}
	for n := range logMost + 1 {
		k.Log = append(k.Log, add(1, n+1, api.Vec{}, 1))
	}
	x := add(2, 1, api.Vec{}, 1)
	for _, n := range []int{logMost, logMost + 1} {
		full := k
		full.Log = k.Log[:n]
		askTake(t, full, x, full, false)
	}
	k.Log = k.Log[:logMost-1]
	want, ok := taken(k, x)
	if !ok || len(want.Log) != logMost {
		t.Fatal(ok, len(want.Log))
	}
	askTake(t, k, x, want, true)
}

// wrongBases are bases that may not be, by each of their fields.
func wrongBases() []api.Base {
	var l []api.Base
	for _, turn := range []func(x *api.Base){
		func(x *api.Base) { x.Self = 0 }, func(x *api.Base) { x.Self = 13 }, func(x *api.Base) { x.State = 4 }, func(x *api.Base) { x.State = -1 }, func(x *api.Base) { x.Boot = -1 }, func(x *api.Base) { x.Boot = api.MaxBoot + 1 },
		func(x *api.Base) { x.Stamp.Id.N = 2 }, func(x *api.Base) { x.Stamp.Event.N = -1 }, func(x *api.Base) { x.Stamp.Event.Kids = make([]api.Tree, 1) }, func(x *api.Base) { x.Stamp.Event.Kids = []api.Tree{{N: 1}, {}, {}} },
		func(x *api.Base) { x.Vec[0] = 1 }, func(x *api.Base) { x.Vec[5] = -1 }, func(x *api.Base) { x.Vec[5] = api.MaxSeq + 1 }, func(x *api.Base) { x.Cut[1] = 4 }, func(x *api.Base) { x.Cut[2] = -1 },
		func(x *api.Base) { x.Time = -1 }, func(x *api.Base) { x.Time = api.MaxTime + 1 }, func(x *api.Base) { x.Store.Objects = make([]api.Object, 1) },
		func(x *api.Base) { x.Store.Objects = slices.Repeat(x.Store.Objects, 2) }, func(x *api.Base) { x.Joined = []int{2, 1} }, func(x *api.Base) { x.Joined = []int{0} }, func(x *api.Base) { x.Left = []int{13} },
		func(x *api.Base) { x.Left = []int{1, 1} }, func(x *api.Base) { x.Heirs = []int{-1} }, func(x *api.Base) { x.Heirs = []int{3, 2} },
		// These would be right behind the next transaction of 2, whose Time is above 0; they are not as they are.
		func(x *api.Base) { x.Cut[2] = 3 }, func(x *api.Base) { x.Time = -7 }, func(x *api.Base) { x.Time = math.MinInt },
	} {
		x := foldOf(fresh(0), line(7)...).Base
		turn(&x)
		l = append(l, x)
	}
	return l
}

// P24.2, Take: nothing is taken by a base that may not be, and that stays as it was.
func TestTakeOfWrongBases(t *testing.T) {
	k := foldOf(fresh(0), line(7)...)
	x := add(2, 3, api.Vec{0, 3}, 1)
	if _, ok := txlog.Take(k, x); !ok {
		t.Fatal("it is not taken by the one that may be")
	}
	for _, b := range wrongBases() {
		if pack.CheckBase(b) {
			t.Errorf("this base may be: %s", shown(b))
		}
		k.Base = b
		askTake(t, k, x, k, false)
	}
	askTake(t, api.Kept{}, x, api.Kept{}, false)
	askTake(t, api.Kept{}, add(1, 1, api.Vec{}, 1), api.Kept{}, false)
}

// P24.2, Take: of what is kept beside the base nothing is asked but how long its log is.
func TestTakeAsksNoMore(t *testing.T) {
	k := foldOf(fresh(0), line(7)...)
	x := add(2, 3, api.Vec{0, 3}, 1)
	for _, turn := range []func(k *api.Kept){
		func(k *api.Kept) { k.Seg = -1 }, func(k *api.Kept) { k.Seg = segMost + 1 }, func(k *api.Kept) { k.Pruned[1] = 9 }, func(k *api.Kept) { k.Pruned[2] = 3 }, func(k *api.Kept) { k.Log = make([]api.Tx, 2) }, func(k *api.Kept) { k.Log = append(k.Log, k.Log...) }, func(k *api.Kept) { k.Log = nil },
	} {
		other := k
		other.Log = slices.Clone(k.Log)
		turn(&other)
		want, _ := taken(other, x)
		askTake(t, other, x, want, true)
	}
}

// P24.2, R1: a base whose stamp holds itself is a base that may not be.
func TestTakeOfAStampWithoutEnd(t *testing.T) {
	k := fresh(0)
	kids := make([]api.Tree, 2)
	kids[0].Kids = kids
	k.Base.Stamp.Event.Kids = kids
	if got, ok := txlog.Take(k, line(1)[0]); ok || got.Base.Vec != (api.Vec{}) || got.Base.Self != 2 {
		t.Errorf("%t, %v", ok, got.Base.Vec)
	}
	if d, err := txlog.Save(of(), k); err != api.ErrArg || !same(d, api.Disk{}) {
		t.Errorf("%d", err)
	}
}

// P24.2, Load: of a base alone, and of one behind which segments stand, of any number.
func TestLoad(t *testing.T) {
	l := line(30)
	for _, n := range []int{0, 1, 9, 10, 99, segMost - 4} {
		k := fresh(n)
		askLoad(t, withBase(k), k, api.OK)
		askLoad(t, withBase(k, ""), seg(k, n+1), api.OK)
		askLoad(t, withBase(k, written(l[0])), seg(foldOf(k, l[0]), n+1), api.OK)
		askLoad(t, withBase(k, written(l[:3]...)), seg(foldOf(k, l[:3]...), n+1), api.OK)
		askLoad(t, withBase(k, written(l[:4]...)), seg(foldOf(k, l[:4]...), n+1), api.OK)
		askLoad(t, withBase(k, written(l[:4]...), ""), seg(foldOf(k, l[:4]...), n+2), api.OK)
		askLoad(t, withBase(k, written(l[:4]...), written(l[4])), seg(foldOf(k, l[:5]...), n+2), api.OK)
		askLoad(t, withBase(k, written(l[:4]...), written(l[4:8]...), written(l[8:12]...), written(l[12:15]...)), seg(foldOf(k, l[:15]...), n+4), api.OK)
	}
	// Segments stand in the order of their numbers, not of their names.
	var segments []string
	for i := range 7 {
		segments = append(segments, written(l[4*i:4*i+4]...))
	}
	for _, n := range []int{5, 8, 95, 97} {
		askLoad(t, withBase(fresh(n), segments...), seg(foldOf(fresh(n), l[:28]...), n+7), api.OK)
	}
}

// P24.2, Load: behind a base that has a log, in which transactions were pruned, too.
func TestLoadBehindALog(t *testing.T) {
	l := line(20)
	k := foldOf(fresh(3), l[:10]...)
	askLoad(t, withBase(k, written(l[10:14]...), written(l[14:16]...)), seg(foldOf(k, l[10:16]...), 5), api.OK)
	k.Pruned, k.Log = api.Vec{0, 2, 1, 1}, k.Log[4:]
	askLoad(t, withBase(k, written(l[10:14]...), written(l[14:16]...)), seg(foldOf(k, l[10:16]...), 5), api.OK)
	askLoad(t, withBase(k, written(l[9:11]...)), seg(k, 4), api.OK)
	askLoad(t, withBase(k, written(l[:4]...), written(l[10])), seg(k, 5), api.OK)
	askLoad(t, withBase(k, written(l[11])), seg(k, 4), api.OK)
}

// P24.2, Load: segments with more records than SegMost are loaded, and end it.
func TestLoadOfMoreThanASegmentHas(t *testing.T) {
	l := line(20)
	for n := range 12 {
		want := foldOf(fresh(0), l[:n]...)
		if n == perSegment {
			want = foldOf(want, l[n:n+3]...)
		}
		askLoad(t, withBase(fresh(0), written(l[:n]...), written(l[n:n+3]...)), seg(want, 2), api.OK)
		want = foldOf(fresh(0), l[:4+n]...)
		if n == perSegment {
			want = foldOf(want, l[4+n:4+n+3]...)
		}
		askLoad(t, withBase(fresh(0), written(l[:4]...), written(l[4:4+n]...), written(l[4+n:4+n+3]...)), seg(want, 3), api.OK)
	}
}

// P24.2, Load: a full segment with bytes behind its records ends it, whatever these are.
func TestLoadOfBytesBehind(t *testing.T) {
	l := line(12)
	torn := written(l[4])
	for _, behind := range []string{"x", "\x00", "1234567", "\x00\x00\x00\x01abcde", "\x00\x00\x00\x09", torn[:1], torn[:4], torn[:len(torn)-1], torn[:len(torn)-1] + "!", strings.Repeat("\x00", 7), strings.Repeat("\xff", 90)} {
		askLoad(t, withBase(fresh(0), written(l[:4]...)+behind, written(l[4:8]...)), seg(foldOf(fresh(0), l[:4]...), 2), api.OK)
		askLoad(t, withBase(fresh(0), written(l[:3]...)+behind, written(l[4:8]...)), seg(foldOf(fresh(0), l[:3]...), 2), api.OK)
		askLoad(t, withBase(fresh(0), behind, written(l[:4]...)), seg(fresh(0), 2), api.OK)
		askLoad(t, withBase(fresh(0), behind+written(l[:4]...)), seg(fresh(0), 1), api.OK)
		askLoad(t, withBase(fresh(0), written(l[:2]...)+behind+written(l[2:4]...), written(l[4:8]...)), seg(foldOf(fresh(0), l[:2]...), 2), api.OK)
	}
}

// P24.2, Load: a segment that is not full ends it, though the next one has what follows.
func TestLoadOfSegmentsThatAreNotFull(t *testing.T) {
	l := line(20)
	for n := range perSegment {
		askLoad(t, withBase(fresh(0), written(l[:n]...), written(l[n:n+4]...), written(l[n+4])), seg(foldOf(fresh(0), l[:n]...), 3), api.OK)
		askLoad(t, withBase(fresh(0), written(l[:4]...), written(l[4:4+n]...), written(l[4+n:8+n]...)), seg(foldOf(fresh(0), l[:4+n]...), 3), api.OK)
	}
}

// without answers a disk without one file.
func without(d api.Disk, name string) api.Disk {
	d.Files = slices.DeleteFunc(slices.Clone(d.Files), func(f api.File) bool { return f.Name == name })
	return d
}

// P24.2, Load: a segment that is missing ends it, the first one, too; Seg is behind the last one that there is.
func TestLoadOfGaps(t *testing.T) {
	l := line(20)
	d := withBase(fresh(8), written(l[:4]...), written(l[4:8]...), written(l[8:12]...), written(l[12:13]...))
	for i, n := range []int{0, 4, 8, 12} {
		want := seg(foldOf(fresh(8), l[:n]...), 12)
		if i == 3 {
			want.Seg = 11
		}
		askLoad(t, without(d, "log"+strconv.Itoa(8+i)), want, api.OK)
	}
	askLoad(t, withBase(fresh(0), written(l[:4]...)), seg(foldOf(fresh(0), l[:4]...), 1), api.OK)
	// What follows stands behind a gap, but is not loaded.
	d = of(whole("base", base(fresh(8))), whole("log8", written(l[:4]...)), whole("log10", written(l[4:8]...)))
	askLoad(t, d, seg(foldOf(fresh(8), l[:4]...), 11), api.OK)
	d = of(whole("base", base(fresh(8))), whole("log9", written(l[:4]...)), whole("log100", written(l[4:8]...)))
	askLoad(t, d, seg(fresh(8), 101), api.OK)
}

// P24.2, Load: segments below Seg are nothing to it.
func TestLoadBelowSeg(t *testing.T) {
	l := line(20)
	d := withBase(fresh(0), written(l[:4]...), written(l[4:8]...), written(l[8:12]...), written(l[12:13]...))
	for n := range 7 {
		d.Files[0] = whole("base", base(fresh(n)))
		want := seg(fresh(n), max(n, 4))
		if n == 0 {
			want = seg(foldOf(fresh(0), l[:13]...), 4)
		}
		askLoad(t, d, want, api.OK)
		k := seg(foldOf(fresh(0), l[:min(4*n, 20)]...), n)
		d.Files[0] = whole("base", base(k))
		askLoad(t, d, seg(foldOf(k, l[min(4*n, 13):13]...), max(n, 4)), api.OK)
	}
}

// P24.2, Load: the last segments that there may be.
func TestLoadOfTheLastSegments(t *testing.T) {
	l := line(20)
	k := fresh(segMost)
	askLoad(t, withBase(k), k, api.OK)
	askLoad(t, withBase(k, written(l[:4]...)), seg(foldOf(k, l[:4]...), segMost+1), api.OK)
	askLoad(t, withBase(k, written(l[:4]...), written(l[4:8]...)), seg(foldOf(k, l[:4]...), segMost+1), api.OK)
	k = fresh(segMost - 1)
	askLoad(t, withBase(k, written(l[:4]...), written(l[4:8]...), written(l[8:12]...)), seg(foldOf(k, l[:8]...), segMost+1), api.OK)
	askLoad(t, of(whole("base", base(fresh(5))), whole("log1048577", "")), fresh(5), api.OK)
	askLoad(t, of(whole("base", base(fresh(5))), whole("log1048576", "")), seg(fresh(5), segMost+1), api.OK)
	askLoad(t, of(whole("base", base(fresh(5))), whole("log1048575", "")), seg(fresh(5), segMost), api.OK)
}

// P24.2, Load: what is no transaction that is taken ends it, wherever it stands, and all behind it.
func TestLoadOfWhatIsNotTaken(t *testing.T) {
	l := line(20)
	turned := func(turn func(x *api.Tx)) string {
		x := line(20)[5]
		turn(&x)
		return written(x)
	}
	open := pack.PutTx(nil, l[5])
	bad := []string{
		recorded(nil), recorded([]byte("x")), recorded([]byte{0}), recorded(open[:len(open)-1]), recorded(append(slices.Clone(open), 0)), recorded(append(slices.Clone(open), open...)), recorded([]byte(base(fresh(0)))), recorded(make([]byte, 60000)),
		written(l[4]), written(l[0]), written(l[6]), written(l[7]), written(l[9]),
		turned(func(x *api.Tx) { x.Dot.Seq++; x.Ops[0].N = 77 }), turned(func(x *api.Tx) { x.Deps[7] = 1 }), turned(func(x *api.Tx) { x.Dot.Peer, x.Dot.Seq, x.Deps[1] = 4, 1, 3 }),
	}
	for _, b := range bad {
		for first := range 4 {
			segments := []string{written(l[:4]...), written(l[4]) + b + written(l[5:7]...), written(l[7:8]...)}
			askLoad(t, withBase(fresh(first), segments...), seg(foldOf(fresh(first), l[:5]...), first+3), api.OK)
		}
		// In a segment's first place, in its last one, and beyond.
		k := foldOf(fresh(0), l[:5]...)
		askLoad(t, withBase(k, b+written(l[5:8]...)), seg(k, 1), api.OK)
		k = foldOf(fresh(0), l[:2]...)
		askLoad(t, withBase(k, written(l[2:5]...)+b, written(l[5:8]...)), seg(foldOf(k, l[2:5]...), 2), api.OK)
		k = foldOf(fresh(0), l[0])
		askLoad(t, withBase(k, written(l[1:5]...)+b, written(l[5:8]...)), seg(foldOf(k, l[1:5]...), 2), api.OK)
	}
}

// P24.2, Load: a log that gets full while it is loaded.
func TestLoadToAFullLog(t *testing.T) {
	k := fresh(0)
	for n := range logMost - 2 {
		k.Log = append(k.Log, add(1, n+1, api.Vec{}, 1))
	}
	k.Base.Vec[1] = logMost - 2
	for _, n := range []int{0, 1, 2, 3, 4} {
		var l []api.Tx
		for i := range n {
			l = append(l, add(2, i+1, api.Vec{}, 1))
		}
		want := foldOf(k, l[:min(n, 2)]...)
		askLoad(t, withBase(k, written(l...), written(add(2, n+1, api.Vec{}, 1))), seg(want, 2), api.OK)
	}
}

// P24.2, Load: one segment with many records, as many as a log has, and more.
func TestLoadOfManyRecords(t *testing.T) {
	var l []api.Tx
	for i := range logMost + 3 {
		l = append(l, api.Tx{Dot: api.Dot{Peer: 1, Seq: i + 1}, Time: 1, Ops: []api.Op{{Kind: api.Last, Key: "a", Act: api.ActPut, Text: strconv.Itoa(i)}}})
		l[i].Deps[1] = i
	}
	askLoad(t, withBase(fresh(0), written(l...)), seg(foldOf(fresh(0), l[:logMost]...), 1), api.OK)
}

// P24.2, Load: as many segments as a disk has files.
func TestLoadOfManySegments(t *testing.T) {
	l := line(4 * (filesMost - 1))
	var segments []string
	for i := range filesMost - 1 {
		segments = append(segments, written(l[4*i:4*i+4]...))
	}
	askLoad(t, withBase(fresh(0), segments...), seg(foldOf(fresh(0), l...), filesMost-1), api.OK)
	askSave(t, withBase(fresh(0), segments...), fresh(filesMost-1), withBase(fresh(filesMost-1)), api.OK)
}
