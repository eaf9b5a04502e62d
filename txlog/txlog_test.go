package txlog_test

import (
	"bytes"
	"encoding/binary"
	"fmt"
	"hash/crc32"
	"math"
	"slices"
	"strconv"
	"strings"
	"testing"

	"plexus/api"
	"plexus/disk"
	"plexus/pack"
	"plexus/stamp"
	"plexus/txlog"
)

// Limits, as the document has them.
const (
	segMost    = 1 << 20
	perSegment = 4
	logMost    = 4096
	roomMost   = 1 << 20
	filesMost  = 64
)

// add answers a transaction that adds a number to the Counter a, with what it has seen.
func add(peer int, seq int, deps api.Vec, n int) api.Tx {
	return api.Tx{Dot: api.Dot{Peer: peer, Seq: seq}, Deps: deps, Time: 10*seq + peer, Ops: []api.Op{{Kind: api.Counter, Key: "a", Act: api.ActAdd, N: n}}}
}

// line answers so many transactions, each of which has seen all ahead of it, of the peers 1, 2 and 3 in turn.
func line(n int) []api.Tx {
	var l []api.Tx
	var v api.Vec
	for i := range n {
		p := 1 + i%3
		t := add(p, v[p]+1, v, i+1)
		if i%4 == 3 {
			t.Ops = append(t.Ops, api.Op{Kind: api.Map, Key: "m", Field: "f", Inner: api.Set, Act: api.ActAdd, Text: strconv.Itoa(i)})
		}
		l = append(l, t)
		v[p]++
	}
	return l
}

// fresh answers what is kept of no transaction.
func fresh(seg int) api.Kept {
	return api.Kept{Base: api.Base{Self: 2, State: api.Joining, Stamp: stamp.Seed(), Boot: 3, Joined: []int{1, 2}}, Seg: seg}
}

// summed answers bytes, and their sum behind.
func summed(b []byte) []byte {
	return binary.LittleEndian.AppendUint32(bytes.Clone(b), crc32.ChecksumIEEE(b))
}

// base answers the bytes of a checkpoint.
func base(k api.Kept) string {
	return string(summed(pack.PutKept(nil, k)))
}

// recorded answers the bytes of a record.
func recorded(body []byte) string {
	return string(binary.BigEndian.AppendUint32(nil, uint32(len(body)))) + string(summed(body))
}

// written answers the bytes of a segment that has these transactions.
func written(l ...api.Tx) string {
	s := ""
	for _, t := range l {
		s += recorded(pack.PutTx(nil, t))
	}
	return s
}

// file answers a file with these bytes, so many of them safe.
func file(name string, data string, safe int) api.File {
	return api.File{Name: name, Data: []byte(data), Safe: safe}
}

// whole answers a file with these bytes, all safe.
func whole(name string, data string) api.File {
	return file(name, data, len(data))
}

// of answers a disk of much room, of these files in whatever order, whose power does not go.
func of(files ...api.File) api.Disk {
	files = slices.Clone(files)
	slices.SortFunc(files, func(f api.File, g api.File) int { return strings.Compare(f.Name, g.Name) })
	return api.Disk{Files: files, Room: roomMost, Arm: -1}
}

// armed answers a disk that is the same, but for Arm.
func armed(d api.Disk, n int) api.Disk {
	d.Arm = n
	return d
}

// dead answers a disk that is the same, but that its power has gone.
func dead(d api.Disk) api.Disk {
	d.Dead = true
	return d
}

// shown answers a value's text, by which two are told apart: lists that are nil and empty ones are alike.
func shown(x any) string {
	return fmt.Sprintf("%+v", x)
}

// same tells whether two values are alike.
func same(a any, b any) bool {
	return shown(a) == shown(b)
}

// brief answers a text without its middle, if it is long.
func brief(s string) string {
	if len(s) > 600 {
		return s[:300] + " .. " + s[len(s)-200:]
	}
	return s
}

// askDisk holds what a call answered against what is wanted.
func askDisk(t *testing.T, what string, got api.Disk, err api.Errno, want api.Disk, wantErr api.Errno) {
	t.Helper()
	if err != wantErr || !same(got, want) {
		t.Errorf("%s = %s, %d, want %s, %d", what, brief(shown(got)), err, brief(shown(want)), wantErr)
	}
}

// askSave asks a Save.
func askSave(t *testing.T, d api.Disk, k api.Kept, want api.Disk, wantErr api.Errno) {
	t.Helper()
	was := shown(d) + shown(k)
	got, err := txlog.Save(d, k)
	askDisk(t, "Save", got, err, want, wantErr)
	if shown(d)+shown(k) != was {
		t.Errorf("Save changed what it was handed: %s", brief(was))
	}
}

// askWrite asks a Write.
func askWrite(t *testing.T, d api.Disk, seg int, x api.Tx, want api.Disk, wantErr api.Errno) {
	t.Helper()
	was := shown(d) + shown(x)
	got, err := txlog.Write(d, seg, x)
	askDisk(t, "Write to "+strconv.Itoa(seg), got, err, want, wantErr)
	if shown(d)+shown(x) != was {
		t.Errorf("Write changed what it was handed: %s", brief(was))
	}
}

// askFlush asks a Flush.
func askFlush(t *testing.T, d api.Disk, seg int, want api.Disk, wantErr api.Errno) {
	t.Helper()
	was := shown(d)
	got, err := txlog.Flush(d, seg)
	askDisk(t, "Flush of "+strconv.Itoa(seg), got, err, want, wantErr)
	if shown(d) != was {
		t.Errorf("Flush changed what it was handed: %s", brief(was))
	}
}

// P24.1, P24.2, P24.3: the chapter's example.
func TestExample(t *testing.T) {
	x := line(1)[0]
	d, err := txlog.Save(of(), fresh(0))
	if err == api.OK {
		d, err = txlog.Write(d, 0, x)
	}
	if err != api.OK {
		t.Fatal(err)
	}
	askLoad(t, disk.Crash(d, 0), seg(fresh(0), 1), api.OK)
	d, err = txlog.Flush(d, 0)
	if err != api.OK {
		t.Fatal(err)
	}
	want, _ := taken(fresh(0), x)
	askLoad(t, disk.Crash(d, 0), seg(want, 1), api.OK)
}

// P24.1, P24.2: the limits are those of the document.
func TestLimits(t *testing.T) {
	if api.SegMost != perSegment || api.MaxRoom != roomMost || api.MaxFiles != filesMost {
		t.Error(api.SegMost, api.MaxRoom, api.MaxFiles)
	}
}

// P24.1: the names of segments.
func TestName(t *testing.T) {
	for n, want := range map[int]string{0: "log0", 1: "log1", 9: "log9", 10: "log10", 100: "log100", 63: "log63", segMost - 1: "log1048575", segMost: "log1048576"} {
		if got := txlog.Name(n); got != want {
			t.Errorf("Name(%d) = %q, want %q", n, got, want)
		}
	}
	for _, n := range []int{-1, -10, segMost + 1, math.MinInt, math.MaxInt} {
		if got := txlog.Name(n); got != "log"+strconv.Itoa(n) {
			t.Errorf("Name(%d) = %q", n, got)
		}
	}
}

// P24.1: a checkpoint, byte by byte.
func TestSaveBytes(t *testing.T) {
	vec := strings.Repeat("\x00", 13)
	// Self 1, State 0, the Stamp's Id and Event, Boot, Vec, Cut, Time, Store, Joined 1, Left, Heirs; Pruned, Log, Seg 7.
	kept := "\x02\x00" + "\x00\x00\x00\x00" + "\x00" + vec + vec + "\x00" + "\x00" + "\x02\x02" + "\x00" + "\x00" + vec + "\x00" + "\x0e"
	k := api.Kept{Base: api.Base{Self: 1, Joined: []int{1}}, Seg: 7}
	askSave(t, of(), k, of(whole("base", string(summed([]byte(kept))))), api.OK)
}

// P24.1: Save puts the base, all safe, whatever was there, and drops the segments below Seg, and nothing else.
func TestSave(t *testing.T) {
	for _, s := range []int{0, 1, 2, 9, 10, 11, 63, segMost - 1, segMost} {
		askSave(t, of(), fresh(s), of(whole("base", base(fresh(s)))), api.OK)
		askSave(t, of(file("base", "what was there, and is longer than what comes", 7)), fresh(s), of(whole("base", base(fresh(s)))), api.OK)
		var all, left []api.File
		for _, n := range []int{0, 1, 2, 3, 8, 9, 10, 11, 12, 20, 62, 63, 64, 100, segMost - 1, segMost} {
			f := file("log"+strconv.Itoa(n), strings.Repeat("x", n%5), n%2)
			if n%5 == 0 {
				f.Safe = 0
			}
			all = append(all, f)
			if n >= s {
				left = append(left, f)
			}
		}
		askSave(t, of(all...), fresh(s), of(append(left, whole("base", base(fresh(s))))...), api.OK)
		askSave(t, armed(of(all...), 1000), fresh(s), armed(of(append(left, whole("base", base(fresh(s))))...), 1000-1-len(all)+len(left)), api.OK)
	}
}

// notSegments are names of no segment.
func notSegments() []string {
	return []string{"log", "log00", "log01", "log007", "log+1", "log-1", "log-0", "log 1", "log1 ", "log1x", "logx1", "log1.", "log0x1", "log1_0", "log1048577", "log2000000", "log999999999999", "Log1", "LOG1", "lo1", "l", "1", "0", "-1", "xlog1", " log1", "base0", "base1", "bas", "log\x001", "log1\x00", "log\xd9\xa1", "loglog1", "log0000000000001"}
}

// P24.1, P24.2: what is not named as a segment is none: Save leaves it, and Load does not count it.
func TestNoSegments(t *testing.T) {
	var others []api.File
	for _, name := range notSegments() {
		others = append(others, file(name, written(line(1)...), 3))
	}
	for _, s := range []int{0, 1, 2, 1000, segMost} {
		want := of(append(others, whole("base", base(fresh(s))))...)
		askSave(t, of(others...), fresh(s), want, api.OK)
		askSave(t, of(append(others, whole("log"+strconv.Itoa(max(s, 1)-1), ""))...), fresh(max(s, 1)), of(append(others, whole("base", base(fresh(max(s, 1)))))...), api.OK)
		askLoad(t, want, fresh(s), api.OK)
	}
}

// P24.1: Save of a checkpoint with all that may be there.
func TestSaveOfMuch(t *testing.T) {
	k := foldOf(fresh(5), line(30)...)
	k.Base.Cut, k.Base.Left, k.Base.Heirs, k.Base.State = api.Vec{0, 2, 1}, []int{3, 12}, []int{4}, api.Retired
	k.Pruned, k.Log = api.Vec{0, 2, 2, 1}, k.Log[5:]
	askSave(t, of(whole("log4", "x"), whole("log5", "y")), k, of(whole("base", base(k)), whole("log5", "y")), api.OK)
	askLoad(t, of(whole("base", base(k))), k, api.OK)
}

// P24.1: Write puts a record behind what a segment has, not safe, in a new file if there is none.
func TestWrite(t *testing.T) {
	l := line(8)
	for _, n := range []int{0, 1, 10, segMost - 1, segMost} {
		name := "log" + strconv.Itoa(n)
		other := []api.File{whole("base", "b"), file("log2", "other", 2), file("log", "o", 0)}
		d := of(append(other, file(name, written(l[0]), 0))...)
		askWrite(t, of(other...), n, l[0], d, api.OK)
		askWrite(t, d, n, l[3], of(append(other, file(name, written(l[0], l[3]), 0))...), api.OK)
		askWrite(t, armed(of(append(other, whole(name, "any"))...), 7), n, l[2], armed(of(append(other, file(name, "any"+written(l[2]), 3))...), 6), api.OK)
		askWrite(t, of(append(other, file(name, "torn", 1))...), n, l[2], of(append(other, file(name, "torn"+written(l[2]), 1))...), api.OK)
	}
	// A segment that is full is written to as any other one.
	askWrite(t, of(whole("log0", written(l[:4]...))), 0, l[4], of(file("log0", written(l[:5]...), len(written(l[:4]...)))), api.OK)
}

// P24.1: the longest transaction there may be is written.
func TestWriteOfTheLongest(t *testing.T) {
	long := strings.Repeat("\xff", api.MaxText)
	o := api.Op{Kind: api.Map, Key: long, Field: long, Inner: api.Seq, Act: api.ActIns, Text: long, Ref: api.Mark{Dot: api.Dot{Peer: 12, Seq: api.MaxSeq - 1}, Index: 16}}
	x := api.Tx{Dot: api.Dot{Peer: 12, Seq: api.MaxSeq}, Time: api.MaxTime, Ops: slices.Repeat([]api.Op{o}, api.MaxOps)}
	for p := range 12 {
		x.Deps[p+1] = api.MaxSeq - 1
	}
	askWrite(t, of(), 3, x, of(file("log3", written(x), 0)), api.OK)
	k := fresh(3)
	k.Base.Vec = x.Deps
	want, ok := taken(k, x)
	if !ok {
		t.Error("it is not taken")
	}
	askLoad(t, of(whole("base", base(k)), whole("log3", written(x))), seg(want, 4), api.OK)
}

// P24.1: Flush makes all of a segment safe, and nothing else; without one it is all right, and nothing is done.
func TestFlush(t *testing.T) {
	for _, n := range []int{0, 1, 10, segMost - 1, segMost} {
		name := "log" + strconv.Itoa(n)
		other := []api.File{file("base", "b", 0), file("log2", "other", 2), file("log", "o", 0)}
		for _, f := range []api.File{file(name, "abc", 0), file(name, "abc", 2), whole(name, "abc"), whole(name, ""), file(name, written(line(5)...), 9)} {
			askFlush(t, armed(of(append(other, f)...), 4), n, armed(of(append(other, whole(name, string(f.Data)))...), 3), api.OK)
		}
		for _, arm := range []int{-1, 0, 1, 5} {
			askFlush(t, armed(of(other...), arm), n, armed(of(other...), arm), api.OK)
			askFlush(t, armed(of(), arm), n, armed(of(), arm), api.OK)
		}
	}
}
