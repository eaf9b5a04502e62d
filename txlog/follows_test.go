package txlog_test

import (
	"math"
	"math/rand"
	"strconv"
	"testing"

	"plexus/api"
	"plexus/disk"
	"plexus/txlog"
)

// account is what a test knows of a disk that it saves to and writes to, by the calls alone: what was saved last, what was written since, how many of these are safe, and whether one more was on its way when the power went.
type account struct {
	saved   api.Kept
	since   []api.Tx
	flushed int
	torn    []api.Tx
}

// now answers what is kept behind all that was written.
func (a account) now() api.Kept {
	return foldOf(a.saved, a.since...)
}

// segment answers the segment that the next transaction is written to.
func (a account) segment() int {
	return a.saved.Seg + len(a.since)/perSegment
}

// next answers the number of the first segment that nothing was written to.
func (a account) next() int {
	return a.saved.Seg + (len(a.since)+len(a.torn)+perSegment-1)/perSegment
}

// asksLoad asks what is loaded behind a crash: what was saved, and the first ones of those that were written since, all that are safe among them. It answers that.
func (a account) asksLoad(t *testing.T, d api.Disk, keep int) api.Kept {
	t.Helper()
	got, err := txlog.Load(disk.Crash(d, keep))
	if err != api.OK {
		t.Fatalf("behind a crash by %d: %d", keep, err)
	}
	all := append(a.since[:len(a.since):len(a.since)], a.torn...)
	count := len(got.Log) - len(a.saved.Log)
	if count < a.flushed || count > len(all) {
		t.Fatalf("behind a crash by %d %d are loaded, %d of %d are safe", keep, count, a.flushed, len(a.since))
	}
	if keep >= roomMost && count != len(all) {
		t.Fatalf("behind a crash that keeps all, %d of %d are loaded", count, len(all))
	}
	// Nothing is loaded behind what is torn: with nothing kept just what is safe is there.
	if keep <= 0 && count != a.flushed {
		t.Fatalf("behind a crash that keeps nothing, %d are loaded, and %d are safe", count, a.flushed)
	}
	if want := seg(foldOf(a.saved, all[:count]...), a.next()); !same(got, want) {
		t.Fatalf("behind a crash by %d: %s, want %s", keep, brief(shown(got)), brief(shown(want)))
	}
	return got
}

// asksAllLoads asks what is loaded behind crashes of each kind.
func (a account) asksAllLoads(t *testing.T, d api.Disk) {
	t.Helper()
	for _, keep := range []int{math.MinInt, -1, 0, 1, 7, 8, 30, 36, 37, 40, 50, 80, 120, roomMost, math.MaxInt} {
		a.asksLoad(t, d, keep)
	}
}

// P24.3: behind each step of a story what is loaded is what was saved last and the first ones of those that were written, whatever is kept of what is not safe.
func TestEachCut(t *testing.T) {
	for _, first := range []int{0, 3, 97} {
		l := line(14)
		a := account{saved: seg(foldOf(fresh(0), l[:2]...), first)}
		d := withBase(a.saved)
		for _, x := range l[2:] {
			var err api.Errno
			was := len(written(a.since...))
			d, err = txlog.Write(d, a.segment(), x)
			if err != api.OK {
				t.Fatal(err)
			}
			a.since = append(a.since, x)
			for keep := -1; keep < len(written(a.since...))-was+2; keep++ {
				a.asksLoad(t, d, keep)
			}
			a.asksAllLoads(t, d)
			if len(a.since)%perSegment == 0 {
				d, _ = txlog.Flush(d, a.segment()-1)
				a.flushed = len(a.since)
				a.asksAllLoads(t, d)
			}
		}
	}
}

// P24.3: each flush makes all safe that were written up to it, in the segment that is begun, too.
func TestFlushedOnesAreSafe(t *testing.T) {
	for at := range 11 {
		l := line(11)
		a := account{saved: fresh(5)}
		d := withBase(a.saved)
		for i, x := range l {
			n := a.segment()
			d, _ = txlog.Write(d, n, x)
			a.since = append(a.since, x)
			if len(a.since)%perSegment == 0 || i == at {
				d, _ = txlog.Flush(d, n)
				a.flushed = i + 1
			}
			a.asksAllLoads(t, d)
		}
		d, _ = txlog.Save(d, seg(a.now(), a.next()))
		account{saved: seg(a.now(), a.next())}.asksAllLoads(t, d)
	}
}

// P24.3: a record of which a byte is not what was written is not loaded, and nothing behind it.
func TestSpoiltBytes(t *testing.T) {
	l := line(6)
	k := fresh(0)
	for n := range 6 {
		whole := []string{written(l[:min(n+1, 4)]...), written(l[min(n+1, 4):max(n+1, 4)]...)}
		d := withBase(k, whole...)
		name, from, to := "log0", len(written(l[:n]...)), len(written(l[:n+1]...))
		if n >= perSegment {
			name, from, to = "log1", len(written(l[4:n]...)), len(written(l[4:n+1]...))
		}
		for at := from; at < to; at++ {
			for i := range d.Files {
				if d.Files[i].Name != name {
					continue
				}
				d.Files[i].Data[at] ^= 0x20
				want, _ := loaded(d)
				askLoad(t, d, want, api.OK)
				if len(want.Log) != n {
					t.Errorf("byte %d of record %d: %d are loaded", at, n, len(want.Log))
				}
				d.Files[i].Data[at] ^= 0x20
			}
		}
	}
}

// worker does steps by chance with a disk, as one does that saves, writes and makes safe, and keeps the account of it.
type worker struct {
	account
	r    *rand.Rand
	disk api.Disk
}

// anyTx answers a transaction by chance that is Ready behind all that was written.
func (w *worker) anyTx() api.Tx {
	v := w.now().Base.Vec
	p := 1 + w.r.Intn(4)
	x := add(p, v[p]+1, api.Vec{}, w.r.Intn(100)-50)
	for q := range v {
		x.Deps[q] = w.r.Intn(v[q] + 1)
	}
	x.Time = 1 + w.r.Intn(1000)
	for range w.r.Intn(3) {
		text := strconv.Itoa(w.r.Intn(5))
		x.Ops = append(x.Ops, []api.Op{
			{Kind: api.Set, Key: "s", Act: 1 + w.r.Intn(2), Text: text}, {Kind: api.Many, Key: text, Act: api.ActPut, Text: text}, {Kind: api.Map, Key: "m", Field: text, Inner: api.Set, Act: api.ActAdd, Text: text},
			{Kind: api.Map, Key: "m", Field: text, Inner: api.Set, Act: api.ActDrop}, {Kind: api.Roster, Act: 1 + w.r.Intn(2), N: 1 + w.r.Intn(12)}, {Kind: api.Seq, Key: "q", Act: api.ActIns, Text: text},
		}[w.r.Intn(6)])
	}
	return x
}

// write writes a transaction, and makes a segment safe that is full then; where the power goes, it tells that.
func (w *worker) write() bool {
	x, n := w.anyTx(), w.segment()
	d, err := txlog.Write(w.disk, n, x)
	w.disk = d
	if err == api.ErrPower {
		w.torn = []api.Tx{x}
	}
	if err != api.OK {
		return false
	}
	w.since = append(w.since, x)
	if len(w.since)%perSegment > 0 {
		return true
	}
	return w.flush(n)
}

// flush makes a segment safe, the last one that was written to.
func (w *worker) flush(n int) bool {
	d, err := txlog.Flush(w.disk, n)
	w.disk = d
	if err == api.OK {
		w.flushed = len(w.since)
	}
	return err == api.OK
}

// save saves all, without some of the log now and then. The power may go ahead of all, or once the base is put.
func (w *worker) save() bool {
	k := seg(w.now(), w.next())
	if w.r.Intn(3) == 0 && len(k.Log) > 0 {
		n := w.r.Intn(len(k.Log) + 1)
		for _, x := range k.Log[:n] {
			k.Pruned[x.Dot.Peer] = x.Dot.Seq
		}
		k.Log = k.Log[n:]
	}
	ahead := w.disk.Arm == 0
	d, err := txlog.Save(w.disk, k)
	w.disk = d
	if !ahead {
		w.account = account{saved: k}
	}
	return err == api.OK
}

// crash has the power go, holds what is loaded against the account, and saves that.
func (w *worker) crash(t *testing.T, keep int) {
	k := w.asksLoad(t, w.disk, keep)
	d, err := txlog.Save(disk.Crash(w.disk, keep), k)
	if err != api.OK {
		t.Fatal(err)
	}
	w.disk, w.account = d, account{saved: k}
}

// step does one step; false: the power has gone.
func (w *worker) step(t *testing.T) bool {
	switch w.r.Intn(24) {
	case 0, 1:
		return w.save()
	case 2, 3, 4:
		if len(w.since) > 0 && len(w.since)%perSegment > 0 {
			return w.flush(w.segment())
		}
	case 5:
		w.disk, _ = disk.Arm(w.disk, w.r.Intn(6))
	case 6:
		w.crash(t, w.r.Intn(100)-20)
	default:
		return w.write()
	}
	return true
}

// P24.3: histories by chance, in which the power goes at any call: behind each step, behind any crash, what is loaded is what was saved last, and the first ones of those that were written since, all that are safe among them.
func TestHistories(t *testing.T) {
	for s := range int64(40) {
		w := &worker{r: rand.New(rand.NewSource(s)), disk: withBase(fresh(0)), account: account{saved: fresh(0)}}
		for range 45 {
			up := w.step(t)
			for _, keep := range []int{-1, 0, w.r.Intn(40), w.r.Intn(120), math.MaxInt} {
				w.asksLoad(t, w.disk, keep)
			}
			if !up {
				w.crash(t, []int{0, w.r.Intn(60), math.MaxInt}[w.r.Intn(3)])
			}
		}
		if w.disk.Dead || w.saved.Base.Vec == (api.Vec{}) {
			t.Errorf("seed %d came to nothing: %s", s, brief(shown(w.disk)))
		}
	}
}
