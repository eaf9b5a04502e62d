package txlog_test

import (
	"cmp"
	"fmt"
	"math"
	"math/rand"
	"reflect"
	"slices"
	"strconv"
	"strings"
	"testing"

	"plexus/api"
	"plexus/disk"
	"plexus/ops"
	"plexus/pack"
	"plexus/txlog"
)

// stocked answers a disk with a checkpoint and some segments, that are safe in part.
func stocked() api.Disk {
	l := line(10)
	return of(whole("base", base(fresh(2))), whole("log0", "x"), whole("log2", written(l[:4]...)), file("log3", written(l[4:6]...), 7), file("log4", "", 0))
}

// wrongDisks are disks that may not be.
func wrongDisks() []api.Disk {
	var l []api.Disk
	for _, turn := range []func(d *api.Disk){
		func(d *api.Disk) { d.Room = -1 }, func(d *api.Disk) { d.Room = 20 }, func(d *api.Disk) { d.Room = roomMost + 1 }, func(d *api.Disk) { d.Arm = -2 }, func(d *api.Disk) { d.Files[1].Safe = 2 },
		func(d *api.Disk) { d.Files[3].Safe = -1 }, func(d *api.Disk) { d.Files[0].Name = "" }, func(d *api.Disk) { slices.Reverse(d.Files) }, func(d *api.Disk) { d.Files[1].Name = "log2" },
		func(d *api.Disk) { d.Files[4].Name = strings.Repeat("x", 17) }, func(d *api.Disk) { d.Files = slices.Repeat(d.Files, 20) },
	} {
		d := stocked()
		turn(&d)
		l = append(l, d, dead(d), armed(d, min(d.Arm, 0)))
	}
	return l
}

// wrongKepts are what may not be kept.
func wrongKepts() []api.Kept {
	l := []api.Kept{{}}
	for _, b := range wrongBases() {
		l = append(l, api.Kept{Base: b})
	}
	for _, turn := range []func(k *api.Kept){
		func(k *api.Kept) { k.Seg = -1 }, func(k *api.Kept) { k.Seg = segMost + 1 }, func(k *api.Kept) { k.Seg = math.MaxInt }, func(k *api.Kept) { k.Seg = math.MinInt },
		func(k *api.Kept) { k.Pruned[1] = 4 }, func(k *api.Kept) { k.Pruned[0] = 1 }, func(k *api.Kept) { k.Pruned[4] = -1 }, func(k *api.Kept) { k.Pruned[2] = 1 },
		func(k *api.Kept) { k.Log = append(k.Log, k.Log[3]) }, func(k *api.Kept) { k.Log = append(k.Log, line(8)[7]) }, func(k *api.Kept) { k.Log[3].Time = 0 }, func(k *api.Kept) { k.Log[0].Ops = nil },
		// A list of more than 4096 elements is nothing's.
		func(k *api.Kept) { k.Base.Store = long(4097) },
	} {
		k := foldOf(fresh(0), line(7)...)
		turn(&k)
		l = append(l, k)
	}
	return l
}

// long answers a store with a counter of so many amounts.
func long(n int) api.Store {
	c := api.Cell{Kind: api.Counter}
	for i := range n {
		c.Amounts = append(c.Amounts, api.Amount{Mark: api.Mark{Dot: api.Dot{Peer: 4, Seq: i + 1}, Index: 1}, N: 1})
	}
	return api.Store{Objects: []api.Object{{Kind: api.Counter, Key: "long", Cell: c}}}
}

// anyDisks are disks that may be and that may not, with power and without.
func anyDisks() []api.Disk {
	return append(wrongDisks(), api.Disk{}, of(), stocked(), dead(stocked()), armed(stocked(), 0), armed(stocked(), 2), dead(of()))
}

// P24.1, R2: what may not be is told ahead of all that a disk tells, and no disk stands beside it.
func TestWrongArguments(t *testing.T) {
	x := line(1)[0]
	for _, d := range anyDisks() {
		for _, k := range wrongKepts() {
			askSave(t, d, k, api.Disk{}, api.ErrArg)
		}
		for _, n := range []int{-1, -2, math.MinInt, segMost + 1, segMost + 2, math.MaxInt} {
			askWrite(t, d, n, x, api.Disk{}, api.ErrArg)
			askWrite(t, d, n, api.Tx{}, api.Disk{}, api.ErrArg)
			askFlush(t, d, n, api.Disk{}, api.ErrArg)
		}
		for _, turn := range []func(x *api.Tx){
			func(x *api.Tx) { *x = api.Tx{} }, func(x *api.Tx) { x.Dot.Peer = 0 }, func(x *api.Tx) { x.Dot.Peer = 13 }, func(x *api.Tx) { x.Dot.Seq = 0 }, func(x *api.Tx) { x.Dot.Seq = api.MaxSeq + 1 }, func(x *api.Tx) { x.Dot = api.Dot{} },
			func(x *api.Tx) { x.Deps[1] = 1 }, func(x *api.Tx) { x.Deps[2] = -1 }, func(x *api.Tx) { x.Deps[0] = 1 }, func(x *api.Tx) { x.Time = 0 }, func(x *api.Tx) { x.Time = api.MaxTime + 1 },
			func(x *api.Tx) { x.Ops = nil }, func(x *api.Tx) { x.Ops = slices.Repeat(x.Ops, 17) }, func(x *api.Tx) { x.Ops = []api.Op{{}} }, func(x *api.Tx) { x.Ops = []api.Op{{Kind: 1, Key: strings.Repeat("k", 65), Act: 1}} },
		} {
			x := line(1)[0]
			turn(&x)
			if ops.CheckTx(x) {
				t.Errorf("this one Checks: %s", shown(x))
			}
			for _, n := range []int{0, 3, segMost, -1} {
				askWrite(t, d, n, x, api.Disk{}, api.ErrArg)
			}
		}
	}
	k := foldOf(fresh(0), line(7)...)
	k.Base.Store = long(4096)
	askSave(t, of(), k, of(whole("base", base(k))), api.OK)
}

// P24.1, P24.2, R2: of a disk that is none, and of a dead one, layer 22's error is told, and the disk stands beside it as it was.
func TestWrongDisks(t *testing.T) {
	refuse := func(d api.Disk, err api.Errno) {
		for _, n := range []int{0, 2, 3, segMost} {
			askSave(t, d, fresh(n), d, err)
			askWrite(t, d, n, line(1)[0], d, err)
			askFlush(t, d, n, d, err)
		}
		askLoad(t, d, api.Kept{}, err)
	}
	for _, d := range wrongDisks() {
		refuse(d, api.ErrForm)
	}
	for _, arm := range []int{-1, 0, 3} {
		refuse(dead(armed(stocked(), arm)), api.ErrPower)
		refuse(dead(armed(of(), arm)), api.ErrPower)
	}
}

// P24.1: where there is no room nothing is done: Save drops no segment then, though there were room behind that.
func TestFullDisks(t *testing.T) {
	k, x := fresh(9), line(1)[0]
	b, r := base(k), written(x)
	for _, arm := range []int{-1, 0, 5} {
		d := armed(of(whole("log0", strings.Repeat("x", 1000)), whole("log9", "y")), arm)
		d.Room = 1000 + len(b)
		askSave(t, d, k, d, api.ErrFull)
		d.Room = 1000 + len(r)
		askWrite(t, d, 0, x, d, api.ErrFull)
		askWrite(t, d, 5, x, d, api.ErrFull)
	}
	d := of(whole("log0", strings.Repeat("x", 1000)), whole("log9", "y"))
	d.Room = 1001 + len(b)
	askSave(t, d, k, api.Disk{Room: d.Room, Arm: -1, Files: []api.File{whole("base", b), whole("log9", "y")}}, api.OK)
	d.Room = 1001 + len(r)
	askWrite(t, d, 0, x, api.Disk{Room: d.Room, Arm: -1, Files: []api.File{file("log0", string(d.Files[0].Data)+r, 1000), whole("log9", "y")}}, api.OK)
	var files []api.File
	for i := range filesMost {
		files = append(files, whole("log"+strconv.Itoa(i), ""))
	}
	askSave(t, of(files...), k, of(files...), api.ErrFull)
	askWrite(t, of(files...), filesMost, x, of(files...), api.ErrFull)
	askWrite(t, of(files...), 3, x, of(append(slices.Delete(slices.Clone(files), 3, 4), file("log3", r, 0))...), api.OK)
	askSave(t, of(files[1:]...), k, of(append(slices.Clone(files[9:]), whole("base", b))...), api.OK)
	askFlush(t, of(files...), 70, of(files...), api.OK)
}

// P24.1: where the power goes amid a Save, segments were dropped by rising numbers up to there; ahead of all, the base is as it was.
func TestPowerGoesAmidSave(t *testing.T) {
	numbers := []int{0, 1, 2, 3, 9, 10, 11, 20, 99, 100}
	files := func(base string, l []int) []api.File {
		all := []api.File{whole("base", base), whole("log101", "after"), file("log102", "after", 2)}
		for _, n := range l {
			all = append(all, file("log"+strconv.Itoa(n), "before", 3))
		}
		return all
	}
	k := fresh(101)
	for n := range len(numbers) + 3 {
		d := armed(of(files("old", numbers)...), n)
		switch {
		case n == 0:
			askSave(t, d, k, dead(d), api.ErrPower)
		case n <= len(numbers):
			askSave(t, d, k, dead(armed(of(files(base(k), numbers[n-1:])...), 0)), api.ErrPower)
		default:
			askSave(t, d, k, armed(of(files(base(k), nil)...), n-len(numbers)-1), api.OK)
		}
	}
	askSave(t, armed(of(), 0), k, dead(armed(of(), 0)), api.ErrPower)
}

// P24.1: where the power goes at a Write, its record stands behind, not safe; at a Flush nothing is done.
func TestPowerGoesAtWriteAndFlush(t *testing.T) {
	x := line(1)[0]
	d := armed(stocked(), 0)
	want := dead(armed(stocked(), 0))
	want.Files[3].Data = append(want.Files[3].Data, written(x)...)
	askWrite(t, d, 3, x, want, api.ErrPower)
	askWrite(t, armed(of(), 0), 3, x, dead(armed(of(file("log3", written(x), 0)), 0)), api.ErrPower)
	for _, n := range []int{0, 2, 3, 4} {
		askFlush(t, d, n, dead(d), api.ErrPower)
	}
	askFlush(t, d, 1, d, api.OK)
}

// P24.2, R2: without a base there is nothing to load, whatever segments there are.
func TestLoadWithoutABase(t *testing.T) {
	for _, d := range []api.Disk{of(), {}, of(whole("log0", written(line(4)...))), of(whole("bas", base(fresh(0))), whole("base0", base(fresh(0))), whole("Base", base(fresh(0)))), of(whole("log", base(fresh(0))))} {
		askLoad(t, d, api.Kept{}, api.ErrNone)
	}
}

// P24.2, R2: a base that is not sealed, or is no Kept and no more, is ErrSum.
func TestLoadOfWrongBases(t *testing.T) {
	k := foldOf(fresh(0), line(7)...)
	right := base(k)
	kept := pack.PutKept(nil, k)
	l := []string{"", "x", "1234", "12345", strings.Repeat("\x00", 4), strings.Repeat("\x00", 9), string(kept), right + "x", right[1:], "x" + right, right + right, string(summed(nil)), string(summed([]byte("x"))), string(summed([]byte(right))),
		string(summed(append(slices.Clone(kept), 0))), string(summed(append(slices.Clone(kept), "behind"...))), string(summed(append(slices.Clone(kept), kept...))), string(summed(kept[:len(kept)-1])), string(summed(kept[1:])), written(line(1)...), string(summed(pack.PutTx(nil, line(1)[0]))),
		// A number with a byte too many is none.
		string(summed(append(slices.Clone(kept[:len(kept)-1]), 0x80, 0))),
		string(summed(append(slices.Clone(kept[:len(kept)-1]), 0x82, 0x80, 0x80, 1)))}
	for i := range right {
		l = append(l, right[:i])
		for _, c := range []byte{1, 0x80, 0xff} {
			b := []byte(right)
			b[i] ^= c
			l = append(l, string(b))
		}
	}
	for _, b := range l {
		askLoad(t, of(whole("base", b), whole("log0", written(line(8)[7]))), api.Kept{}, api.ErrSum)
	}
	askLoad(t, of(whole("base", right), whole("log0", written(line(8)[7]))), seg(foldOf(k, line(8)[7]), 1), api.OK)
}

// P24.2: bytes of a base by chance, sealed: what is loaded is what the document says.
func TestLoadOfSealedBytes(t *testing.T) {
	r := rand.New(rand.NewSource(24))
	kept := pack.PutKept(nil, foldOf(fresh(0), line(7)...))
	loads := 0
	for range 3000 {
		b := slices.Clone(kept)
		for range 1 + r.Intn(2) {
			b[r.Intn(len(b))] = byte(r.Intn(12))
		}
		d := of(whole("base", string(summed(b))), whole("log0", written(line(9)[7:]...)))
		want, err := loaded(d)
		askLoad(t, d, want, err)
		if err == api.OK {
			loads++
		}
	}
	if loads < 100 || loads > 2900 {
		t.Errorf("%d of 3000 are loaded", loads)
	}
}

// P24.1, P24.2, R1: disks by chance, whose segments have records and other bytes: what is loaded, saved, written and made safe is what the document says.
func TestDisksByChance(t *testing.T) {
	r := rand.New(rand.NewSource(242))
	l := line(24)
	for range 800 {
		first := r.Intn(12)
		k := seg(foldOf(fresh(0), l[:r.Intn(6)]...), first)
		d := withBase(k)
		at := len(k.Log)
		for n := max(0, first-2); n < first+6; n++ {
			b := ""
			for range r.Intn(2)*r.Intn(6) + r.Intn(2)*perSegment {
				switch r.Intn(30) {
				case 0:
					b += written(l[r.Intn(len(l))])
				case 1:
					b += strings.Repeat("x", r.Intn(4))
				default:
					b += written(l[min(at, len(l)-1)])
					at++
				}
			}
			if r.Intn(8) > 0 {
				d = of(append(d.Files, file("log"+strconv.Itoa(n), b, r.Intn(len(b)+1)))...)
			}
		}
		want, err := loaded(d)
		askLoad(t, d, want, err)
		other := fresh(r.Intn(20))
		left := slices.DeleteFunc(slices.Clone(d.Files), func(f api.File) bool {
			n, err := strconv.Atoi(strings.TrimPrefix(f.Name, "log"))
			return f.Name == "base" || err == nil && n < other.Seg
		})
		askSave(t, d, other, of(append(left, whole("base", base(other)))...), api.OK)
		name, x := "log"+strconv.Itoa(other.Seg), l[r.Intn(len(l))]
		grown, _ := disk.Append(d, name, []byte(written(x)))
		askWrite(t, d, other.Seg, x, grown, api.OK)
		safe, _ := disk.Sync(grown, name)
		askFlush(t, grown, other.Seg, safe, api.OK)
	}
}

// R1: what no call made, a zero value, is a disk of no room, whose power goes at once, and nothing is kept by a zero one.
func TestOfZero(t *testing.T) {
	askSave(t, api.Disk{}, fresh(0), api.Disk{}, api.ErrFull)
	askSave(t, api.Disk{}, api.Kept{}, api.Disk{}, api.ErrArg)
	askWrite(t, api.Disk{}, 0, line(1)[0], api.Disk{}, api.ErrFull)
	askFlush(t, api.Disk{}, 0, api.Disk{}, api.OK)
	askLoad(t, api.Disk{}, api.Kept{}, api.ErrNone)
	askTake(t, api.Kept{}, api.Tx{}, api.Kept{}, false)
}

// roomy answers a value that is the same, whose lists are others, with room behind their ends.
func roomy(v reflect.Value) reflect.Value {
	c := reflect.New(v.Type()).Elem()
	c.Set(v)
	switch v.Kind() {
	case reflect.Slice:
		c = reflect.MakeSlice(v.Type(), v.Len(), v.Len()+3)
		fallthrough
	case reflect.Array:
		for i := range v.Len() {
			c.Index(i).Set(roomy(v.Index(i)))
		}
	case reflect.Struct:
		for i := range v.NumField() {
			c.Field(i).Set(roomy(v.Field(i)))
		}
	}
	return c
}

// withRoom answers a value that is the same, whose lists are others, with room behind their ends.
func withRoom[T any](x T) T {
	return roomy(reflect.ValueOf(x)).Interface().(T)
}

// tellWhole tells a value with all that stands in the room behind its lists' ends.
func tellWhole(b *strings.Builder, v reflect.Value) {
	switch v.Kind() {
	case reflect.Slice:
		fmt.Fprint(b, "of ", v.Len(), ":")
		v = v.Slice(0, v.Cap())
		fallthrough
	case reflect.Array:
		for i := range v.Len() {
			tellWhole(b, v.Index(i))
		}
	case reflect.Struct:
		for i := range v.NumField() {
			tellWhole(b, v.Field(i))
		}
	default:
		fmt.Fprint(b, v, ",")
	}
}

// wholeOf answers the text of values with all that stands in the room behind their lists' ends.
func wholeOf(l ...any) string {
	var b strings.Builder
	for _, x := range l {
		tellWhole(&b, reflect.ValueOf(x))
	}
	return b.String()
}

// stretch is memory that a list has, its room too.
type stretch struct{ from, to uintptr }

// stretches answers the memory of all lists of a value.
func stretches(v reflect.Value) []stretch {
	var l []stretch
	switch v.Kind() {
	case reflect.Slice:
		if size := uintptr(v.Cap()) * v.Type().Elem().Size(); size > 0 {
			l = append(l, stretch{v.Pointer(), v.Pointer() + size})
		}
		fallthrough
	case reflect.Array:
		for i := range v.Len() {
			l = append(l, stretches(v.Index(i))...)
		}
	case reflect.Struct:
		for i := range v.NumField() {
			l = append(l, stretches(v.Field(i))...)
		}
	}
	return l
}

// apart tells whether no two lists of these values share memory.
func apart(values ...any) bool {
	var l []stretch
	for _, x := range values {
		l = append(l, stretches(reflect.ValueOf(x))...)
	}
	slices.SortFunc(l, func(a stretch, b stretch) int { return cmp.Compare(a.from, b.from) })
	for i := 1; i < len(l); i++ {
		if l[i].from < l[i-1].to {
			return false
		}
	}
	return true
}

// rich answers what is kept with something in each list.
func rich() api.Kept {
	k := foldOf(fresh(2), line(9)...)
	k.Base.Stamp = api.Stamp{Id: api.Tree{Kids: []api.Tree{{N: 1}, {}}}, Event: api.Tree{N: 2, Kids: []api.Tree{{Kids: []api.Tree{{N: 1}, {}}}, {N: 3}}}}
	x := add(4, 1, api.Vec{}, 1)
	x.Ops = []api.Op{{Kind: 2, Key: "l", Act: 3, Text: "x"}, {Kind: 3, Key: "l", Act: 3, Text: "x"}, {Kind: 4, Key: "l", Act: 1, Text: "x"}, {Kind: 5, Key: "l", Act: 4, Text: "x"}, {Kind: 5, Key: "l", Act: 2, Ref: api.Mark{Dot: x.Dot, Index: 4}}, {Kind: 7, Act: 2, N: 1}}
	k = foldOf(k, x)
	k.Base.Heirs, k.Pruned, k.Log = []int{1, 7}, api.Vec{0, 1}, k.Log[1:]
	return k
}

// R3, R7: arguments stay as they were, what stands in the room behind their lists' ends, too; and no list of an answer shares memory with them, nor with another one.
func TestMemory(t *testing.T) {
	next := add(4, 2, api.Vec{0, 3, 3, 3}, 1)
	next.Ops = append(next.Ops, api.Op{Kind: 7, Act: 1, N: 5}, api.Op{Kind: 5, Key: "l", Act: 4, Text: "y"}, api.Op{Kind: 6, Key: "m", Field: "f", Inner: 4, Act: 2, Text: "3"})
	if _, ok := txlog.Take(rich(), next); !ok || pack.PutKept(nil, rich()) == nil {
		t.Fatal("it is not taken, or may not be")
	}
	stored := withBase(rich(), written(next), "x")
	for i, d := range []api.Disk{stocked(), stored, armed(stored, 0), dead(stored), wrongDisks()[0], armed(stocked(), 1)} {
		for _, k := range []api.Kept{rich(), seg(rich(), 9), seg(rich(), -1), {Base: wrongBases()[0], Log: rich().Log}} {
			for _, x := range []api.Tx{next, line(1)[0], {Ops: next.Ops}} {
				for _, n := range []int{0, 2, 3, 5, -1} {
					d, k, x := withRoom(d), withRoom(k), withRoom(x)
					was := wholeOf(d, k, x)
					saved, _ := txlog.Save(d, k)
					wrote, _ := txlog.Write(d, n, x)
					flushed, _ := txlog.Flush(d, n)
					got, _ := txlog.Load(d)
					took, _ := txlog.Take(k, x)
					if wholeOf(d, k, x) != was {
						t.Fatalf("disk %d, segment %d: an argument is not as it was", i, n)
					}
					if !apart(d, k, x, saved, wrote, flushed, got, took) {
						t.Fatalf("disk %d, segment %d: lists share memory", i, n)
					}
				}
			}
		}
	}
}

// R3, R4: what is kept by two that came of one knows nothing of one another.
func TestTwoOfOne(t *testing.T) {
	k := foldOf(fresh(0), line(3)...)
	first, _ := txlog.Take(k, add(1, 2, api.Vec{}, 7))
	second, _ := txlog.Take(k, add(2, 2, api.Vec{}, 8))
	if !same(first, foldOf(k, add(1, 2, api.Vec{}, 7))) || !same(second, foldOf(k, add(2, 2, api.Vec{}, 8))) || !same(k, foldOf(fresh(0), line(3)...)) {
		t.Errorf("%s, %s, %s", shown(k), shown(first), shown(second))
	}
}
