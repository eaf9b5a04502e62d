package disk_test

import (
	"bytes"
	"math"
	"slices"
	"strings"
	"testing"

	"plexus/api"
	"plexus/disk"
)

// roomMost is how many bytes a disk has at most, filesMost how many files, and nameMost how many bytes a name has, as the document has them.
const (
	roomMost  = 1 << 20
	filesMost = 64
	nameMost  = 16
)

// file answers a file with these bytes, so many of them safe.
func file(name string, data string, safe int) api.File {
	return api.File{Name: name, Data: []byte(data), Safe: safe}
}

// of answers a disk of these files, whose power does not go.
func of(room int, files ...api.File) api.Disk {
	return api.Disk{Files: files, Room: room, Arm: -1}
}

// armed answers a disk that is the same, but for Arm.
func armed(d api.Disk, n int) api.Disk {
	d.Arm = n
	return d
}

// dead answers a disk that is the same, but that its power has gone.
func dead(d api.Disk) api.Disk {
	d.Dead = true
	return d
}

// same tells whether two disks are alike: lists that are nil and empty ones are.
func same(a api.Disk, b api.Disk) bool {
	return a.Room == b.Room && a.Arm == b.Arm && a.Dead == b.Dead && slices.EqualFunc(a.Files, b.Files, func(f api.File, g api.File) bool {
		return f.Name == g.Name && f.Safe == g.Safe && bytes.Equal(f.Data, g.Data)
	})
}

// again answers a disk that is the same, and shares no memory with it.
func again(d api.Disk) api.Disk {
	files := d.Files
	d.Files = nil
	for _, f := range files {
		d.Files = append(d.Files, file(f.Name, string(f.Data), f.Safe))
	}
	return d
}

// brief tells a disk in a test's words, without all bytes of one that has many.
func brief(d api.Disk) api.Disk {
	d = again(d)
	for i, f := range d.Files {
		d.Files[i].Data = f.Data[:min(len(f.Data), 20)]
	}
	return d
}

// manyFiles answers so many files of some bytes each, all safe.
func manyFiles(n int, data string) []api.File {
	var l []api.File
	for i := range n {
		l = append(l, file("f"+string(rune('A'+i)), data, len(data)))
	}
	return l
}

// call is one that changes a disk: which one it is, the name and the bytes that it is given, if any, and the number.
type call struct {
	what string
	name string
	data string
	n    int
}

// does does a call.
func (c call) does(d api.Disk) (api.Disk, api.Errno) {
	switch c.what {
	case "Put":
		return disk.Put(d, c.name, []byte(c.data))
	case "Append":
		return disk.Append(d, c.name, []byte(c.data))
	case "Sync":
		return disk.Sync(d, c.name)
	case "Drop":
		return disk.Drop(d, c.name)
	case "Arm":
		return disk.Arm(d, c.n)
	}
	return disk.Crash(d, c.n), api.OK
}

// asks asks a call, and holds its answer against what is wanted; what was handed in has to be as it was.
func (c call) asks(t *testing.T, d api.Disk, want api.Disk, wantErr api.Errno) {
	t.Helper()
	was := again(d)
	got, err := c.does(d)
	if err != wantErr || !same(got, want) {
		t.Errorf("%+.40v of %+v = %+v, %d, want %+v, %d", c, brief(d), brief(got), err, brief(want), wantErr)
	}
	if !same(d, was) {
		t.Errorf("%+.40v: the argument is %+v, and was %+v", c, brief(d), brief(was))
	}
}

// put, grow, sync, drop, arm and crash answer calls.
func put(name string, data string) call  { return call{what: "Put", name: name, data: data} }
func grow(name string, data string) call { return call{what: "Append", name: name, data: data} }
func sync(name string) call              { return call{what: "Sync", name: name} }
func drop(name string) call              { return call{what: "Drop", name: name} }
func arm(n int) call                     { return call{what: "Arm", n: n} }
func crash(n int) call                   { return call{what: "Crash", n: n} }

// askRead asks Read.
func askRead(t *testing.T, d api.Disk, name string, want string, wantErr api.Errno) {
	t.Helper()
	if got, err := disk.Read(d, name); string(got) != want || err != wantErr {
		t.Errorf("Read of %+v, %q = %.40q, %d, want %.40q, %d", brief(d), name, got, err, want, wantErr)
	}
}

// askNames asks Names.
func askNames(t *testing.T, d api.Disk, want ...string) {
	t.Helper()
	if got := disk.Names(d); !slices.Equal(got, want) {
		t.Errorf("Names of %+v = %q, want %q", brief(d), got, want)
	}
}

// askCheck asks Check.
func askCheck(t *testing.T, d api.Disk, want bool) {
	t.Helper()
	if got := disk.Check(d); got != want {
		t.Errorf("Check(%+v) = %v, want %v", brief(d), got, want)
	}
}

// P22.2, P22.3: the chapter's example.
func TestExample(t *testing.T) {
	d, err := disk.New(100)
	for _, c := range []call{grow("l", "ab"), sync("l"), grow("l", "cd")} {
		if err == api.OK {
			d, err = c.does(d)
		}
	}
	if err != api.OK {
		t.Fatal(err)
	}
	crash(1).asks(t, d, of(100, file("l", "abc", 3)), api.OK)
	askRead(t, disk.Crash(d, 1), "l", "abc", api.OK)
	askRead(t, d, "l", "abcd", api.OK)
}

// P22.1: the limits are those of the document.
func TestLimits(t *testing.T) {
	if api.MaxRoom != roomMost || api.MaxFiles != filesMost || api.MaxName != nameMost {
		t.Error(api.MaxRoom, api.MaxFiles, api.MaxName)
	}
}

// P22.1: disks that may be, those at each edge among them.
func TestCheckOfWhatMayBe(t *testing.T) {
	long := strings.Repeat("n", nameMost)
	for _, d := range []api.Disk{
		{}, of(0), of(1), of(roomMost), armed(of(5), 0), armed(of(5), 1), armed(of(5), math.MaxInt), dead(of(5)), dead(armed(of(5), 0)), dead(armed(of(5), 7)),
		of(0, file("a", "", 0)), of(0, file("a", "", 0), file("b", "", 0)), of(1, file("a", "x", 0)), of(1, file("a", "x", 1)), of(3, file("a", "xyz", 2)),
		of(4, file("a", "xy", 1), file("b", "zw", 2)), of(4, file("a", "", 0), file("b", "zw12", 2), file("c", "", 0)),
		of(9, file(long, "x", 1)), of(9, file(long[1:]+"m", "", 0), file(long, "x", 1)), of(9, file("a", "", 0), file("aa", "", 0), file("ab", "", 0), file("b", "", 0)),
		of(9, file("\x00", "", 0), file("\x00\x00", "", 0), file("\x7f", "", 0), file("\x80", "", 0), file("\xff", "", 0), file("\xff\xff", "", 0)), of(9, file("B", "", 0), file("a", "", 0)),
		of(filesMost, manyFiles(filesMost, "x")...), of(roomMost, file("a", strings.Repeat("x", roomMost), roomMost)), of(roomMost, manyFiles(filesMost, strings.Repeat("x", roomMost/filesMost))...),
		of(roomMost, file("a", strings.Repeat("x", roomMost), 0)), of(9, file("a", "\x00\xff", 1)),
	} {
		askCheck(t, d, true)
	}
}

// P22.1: New of each room that may be, and of none else.
func TestNew(t *testing.T) {
	for _, room := range []int{0, 1, 2, 100, 65536, roomMost - 1, roomMost} {
		d, err := disk.New(room)
		if err != api.OK || !same(d, of(room)) || !disk.Check(d) {
			t.Errorf("New(%d) = %+v, %d", room, d, err)
		}
	}
	for _, room := range []int{-1, -2, -roomMost, math.MinInt, roomMost + 1, roomMost + 2, math.MaxInt} {
		d, err := disk.New(room)
		if err != api.ErrArg || d.Room != 0 || d.Arm != 0 || d.Dead || d.Files != nil {
			t.Errorf("New(%d) = %+v, %d", room, d, err)
		}
	}
}

// P22.2: Put puts a new file, and takes the place of another one, all bytes safe.
func TestPut(t *testing.T) {
	a, c := file("a", "12", 1), file("c", "345", 0)
	d := of(10, a, c)
	put("b", "xyz").asks(t, d, of(10, a, file("b", "xyz", 3), c), api.OK)
	put("A", "x").asks(t, d, of(10, file("A", "x", 1), a, c), api.OK)
	put("cc", "x").asks(t, d, of(10, a, c, file("cc", "x", 1)), api.OK)
	put("a", "xyz").asks(t, d, of(10, file("a", "xyz", 3), c), api.OK)
	put("c", "x").asks(t, d, of(10, a, file("c", "x", 1)), api.OK)
	put("c", "").asks(t, d, of(10, a, file("c", "", 0)), api.OK)
	put("b", "").asks(t, d, of(10, a, file("b", "", 0), c), api.OK)
	put("a", "12").asks(t, d, of(10, file("a", "12", 2), c), api.OK)
	put("a", "").asks(t, of(0), of(0, file("a", "", 0)), api.OK)
}

// P22.2: Append has a file grow behind what is there, none of it safer than it was.
func TestAppend(t *testing.T) {
	a, c := file("a", "12", 1), file("c", "345", 3)
	d := of(10, a, c)
	grow("a", "xyz").asks(t, d, of(10, file("a", "12xyz", 1), c), api.OK)
	grow("c", "x").asks(t, d, of(10, a, file("c", "345x", 3)), api.OK)
	grow("b", "x").asks(t, d, of(10, a, file("b", "x", 0), c), api.OK)
	grow("a", "").asks(t, d, d, api.OK)
	grow("c", "").asks(t, d, d, api.OK)
	grow("d", "").asks(t, d, of(10, a, c, file("d", "", 0)), api.OK)
	grow("a", "").asks(t, of(0), of(0, file("a", "", 0)), api.OK)
}

// P22.2: Sync makes all bytes of one file safe, and of no other one; Drop drops one.
func TestSyncAndDrop(t *testing.T) {
	a, b, c := file("a", "12", 1), file("b", "", 0), file("c", "345", 0)
	d := of(10, a, b, c)
	sync("a").asks(t, d, of(10, file("a", "12", 2), b, c), api.OK)
	sync("b").asks(t, d, d, api.OK)
	sync("c").asks(t, d, of(10, a, b, file("c", "345", 3)), api.OK)
	drop("a").asks(t, d, of(10, b, c), api.OK)
	drop("b").asks(t, d, of(10, a, c), api.OK)
	drop("c").asks(t, d, of(10, a, b), api.OK)
	drop("a").asks(t, of(10, a), of(10), api.OK)
	for _, name := range []string{"A", "aa", "bb", "d", "\x00", "\xff", "a\x00", strings.Repeat("a", nameMost)} {
		sync(name).asks(t, d, d, api.ErrNone)
		drop(name).asks(t, d, d, api.ErrNone)
		sync(name).asks(t, of(10), of(10), api.ErrNone)
		drop(name).asks(t, of(10), of(10), api.ErrNone)
	}
}

// P22.2: what just fits is done, and one byte more is not; of a Put the file whose place it takes counts no more.
func TestFull(t *testing.T) {
	a, b := file("a", "1234", 2), file("b", "56", 2)
	for _, c := range []struct {
		call call
		need int
		want []api.File
	}{
		{grow("a", "xy"), 8, []api.File{file("a", "1234xy", 2), b}},
		{grow("b", "x"), 7, []api.File{a, file("b", "56x", 2)}},
		{grow("c", "x"), 7, []api.File{a, b, file("c", "x", 0)}},
		{put("c", "xyz"), 9, []api.File{a, b, file("c", "xyz", 3)}},
		{put("a", "12345"), 7, []api.File{file("a", "12345", 5), b}},
		{put("b", "123456"), 10, []api.File{a, file("b", "123456", 6)}},
	} {
		c.call.asks(t, of(c.need, a, b), of(c.need, c.want...), api.OK)
		c.call.asks(t, of(c.need+1, a, b), of(c.need+1, c.want...), api.OK)
		c.call.asks(t, of(c.need-1, a, b), of(c.need-1, a, b), api.ErrFull)
		c.call.asks(t, armed(of(c.need, a, b), 0), torn(c.call, armed(of(c.need, a, b), 0)), api.ErrPower)
		c.call.asks(t, armed(of(c.need-1, a, b), 0), armed(of(c.need-1, a, b), 0), api.ErrFull)
	}
	full := of(6, a, b)
	put("a", "wxyz").asks(t, full, of(6, file("a", "wxyz", 4), b), api.OK)
	put("a", "w").asks(t, full, of(6, file("a", "w", 1), b), api.OK)
	put("a", "").asks(t, full, of(6, file("a", "", 0), b), api.OK)
	grow("a", "").asks(t, full, full, api.OK)
	grow("c", "").asks(t, full, of(6, a, b, file("c", "", 0)), api.OK)
	grow("a", strings.Repeat("x", roomMost)).asks(t, full, full, api.ErrFull)
	put("a", strings.Repeat("x", roomMost)).asks(t, full, full, api.ErrFull)
	put("a", "x").asks(t, of(0), of(0), api.ErrFull)
	grow("a", "x").asks(t, of(0), of(0), api.ErrFull)
}

// torn answers what the document says of a disk on which the power goes at a call: an Append's bytes stand behind, not safe.
func torn(c call, d api.Disk) api.Disk {
	d = dead(again(d))
	if c.what != "Append" {
		return d
	}
	i := slices.IndexFunc(d.Files, func(f api.File) bool { return f.Name >= c.name })
	if i < 0 {
		i = len(d.Files)
	}
	if i == len(d.Files) || d.Files[i].Name != c.name {
		d.Files = slices.Insert(d.Files, i, file(c.name, "", 0))
	}
	d.Files[i].Data = append(d.Files[i].Data, c.data...)
	return d
}

// P22.2: a disk has room for MaxRoom bytes, in one file or in many.
func TestMostRoom(t *testing.T) {
	all := strings.Repeat("x", roomMost)
	put("a", all).asks(t, of(roomMost), of(roomMost, file("a", all, roomMost)), api.OK)
	grow("a", all).asks(t, of(roomMost), of(roomMost, file("a", all, 0)), api.OK)
	put("a", all+"y").asks(t, of(roomMost), of(roomMost), api.ErrFull)
	grow("a", all+"y").asks(t, of(roomMost), of(roomMost), api.ErrFull)
	put("a", all).asks(t, of(roomMost-1), of(roomMost-1), api.ErrFull)
	grow("a", "y").asks(t, of(roomMost, file("a", all[1:], 5)), of(roomMost, file("a", all[1:]+"y", 5)), api.OK)
	grow("a", "yz").asks(t, of(roomMost, file("a", all[1:], 5)), of(roomMost, file("a", all[1:], 5)), api.ErrFull)
	sync("a").asks(t, of(roomMost, file("a", all, 5)), of(roomMost, file("a", all, roomMost)), api.OK)
	crash(7).asks(t, of(roomMost, file("a", all, 5)), of(roomMost, file("a", all[:12], 12)), api.OK)
	many := manyFiles(filesMost, strings.Repeat("x", roomMost/filesMost))
	grow("fB", "y").asks(t, of(roomMost, many...), of(roomMost, many...), api.ErrFull)
	drop("fA").asks(t, of(roomMost, many...), of(roomMost, many[1:]...), api.OK)
	grow("fB", many[0].Name).asks(t, of(roomMost, many[1:]...), of(roomMost, slices.Insert(slices.Clone(many[2:]), 0, file("fB", string(many[1].Data)+"fA", many[1].Safe))...), api.OK)
}

// P22.2: there are MaxFiles files, and no more; those that are there change as any other ones.
func TestMostFiles(t *testing.T) {
	all := manyFiles(filesMost, "x")
	d := of(100, all...)
	for _, name := range []string{"a", "fAA", "z"} {
		put(name, "y").asks(t, d, d, api.ErrFull)
		put(name, "").asks(t, d, d, api.ErrFull)
		grow(name, "y").asks(t, d, d, api.ErrFull)
		grow(name, "").asks(t, d, d, api.ErrFull)
		put(name, "").asks(t, armed(d, 0), armed(d, 0), api.ErrFull)
		grow(name, "").asks(t, armed(d, 0), armed(d, 0), api.ErrFull)
	}
	put("fA", "yz").asks(t, d, of(100, append([]api.File{file("fA", "yz", 2)}, all[1:]...)...), api.OK)
	grow("fA", "yz").asks(t, d, of(100, append([]api.File{file("fA", "xyz", 1)}, all[1:]...)...), api.OK)
	last := all[filesMost-1].Name
	grow(last, "y").asks(t, d, of(100, append(slices.Clone(all[:filesMost-1]), file(last, "xy", 1))...), api.OK)
	less := of(100, all[1:]...)
	put("fA", "x").asks(t, less, d, api.OK)
	grow("z", "y").asks(t, less, of(100, append(slices.Clone(all[1:]), file("z", "y", 0))...), api.OK)
	drop(last).asks(t, d, of(100, all[:filesMost-1]...), api.OK)
}

// P22.2: where the power goes nothing is done, but that an Append's bytes stand behind, not safe.
func TestPowerGoes(t *testing.T) {
	a, b := file("a", "12", 1), file("b", "345", 3)
	d := armed(of(10, a, b), 0)
	put("a", "xyz").asks(t, d, dead(d), api.ErrPower)
	put("c", "x").asks(t, d, dead(d), api.ErrPower)
	sync("a").asks(t, d, dead(d), api.ErrPower)
	drop("a").asks(t, d, dead(d), api.ErrPower)
	grow("a", "xy").asks(t, d, dead(armed(of(10, file("a", "12xy", 1), b), 0)), api.ErrPower)
	grow("b", "x").asks(t, d, dead(armed(of(10, a, file("b", "345x", 3)), 0)), api.ErrPower)
	grow("ab", "xy").asks(t, d, dead(armed(of(10, a, file("ab", "xy", 0), b), 0)), api.ErrPower)
	grow("c", "").asks(t, d, dead(armed(of(10, a, b, file("c", "", 0)), 0)), api.ErrPower)
	grow("a", "").asks(t, d, dead(d), api.ErrPower)
}

// P22.2: each call that is done counts, and those that are refused, or only look, do not; without Arm nothing is counted.
func TestArmCounts(t *testing.T) {
	a := file("a", "12", 1)
	for _, n := range []int{1, 2, 3, math.MaxInt} {
		d := armed(of(4, a), n)
		put("b", "x").asks(t, d, armed(of(4, a, file("b", "x", 1)), n-1), api.OK)
		grow("a", "x").asks(t, d, armed(of(4, file("a", "12x", 1)), n-1), api.OK)
		sync("a").asks(t, d, armed(of(4, file("a", "12", 2)), n-1), api.OK)
		drop("a").asks(t, d, armed(of(4), n-1), api.OK)
		for _, c := range []call{put("b", "xyz"), grow("a", "xyz"), put("a", "12345")} {
			c.asks(t, d, d, api.ErrFull)
		}
		sync("b").asks(t, d, d, api.ErrNone)
		drop("b").asks(t, d, d, api.ErrNone)
		drop("").asks(t, d, d, api.ErrArg)
		askRead(t, d, "a", "12", api.OK)
		askNames(t, d, "a")
	}
	sync("a").asks(t, of(4, a), of(4, file("a", "12", 2)), api.OK)
}

// P22.2: what is wrong with a file, or with the room, is told ahead of the power, which does not go then.
func TestRefusedAheadOfPower(t *testing.T) {
	d := armed(of(4, file("a", "12", 1)), 0)
	put("b", "xyz").asks(t, d, d, api.ErrFull)
	grow("a", "xyz").asks(t, d, d, api.ErrFull)
	sync("b").asks(t, d, d, api.ErrNone)
	drop("b").asks(t, d, d, api.ErrNone)
	put("", "xyz").asks(t, d, d, api.ErrArg)
}

// P22.3: Read answers a file's bytes, those that are not safe among them; Names all names, as they rise.
func TestReadAndNames(t *testing.T) {
	long := strings.Repeat("n", nameMost)
	d := of(20, file("a", "12", 0), file("aa", "", 0), file("ab", "3\x004", 1), file(long[1:]+"m", "5", 1), file(long, "67", 2))
	for _, n := range []int{-1, 0, 1, math.MaxInt} {
		d.Arm = n
		for _, f := range d.Files {
			askRead(t, d, f.Name, string(f.Data), api.OK)
		}
		askNames(t, d, "a", "aa", "ab", long[1:]+"m", long)
		for _, name := range []string{"b", "aaa", "A", "ac", long[1:], long[1:] + "l", "\x00", "\xff"} {
			askRead(t, d, name, "", api.ErrNone)
		}
	}
	askRead(t, of(20), "a", "", api.ErrNone)
	askNames(t, of(20))
	var names []string
	for _, f := range manyFiles(filesMost, "") {
		names = append(names, f.Name)
	}
	askNames(t, of(0, manyFiles(filesMost, "")...), names...)
}

// P22.3: Arm sets any number from -1 on, whatever it was.
func TestArm(t *testing.T) {
	d := of(9, file("a", "12", 1))
	for _, was := range []int{-1, 0, 1, 5, math.MaxInt} {
		for _, n := range []int{-1, 0, 1, 2, 77, math.MaxInt} {
			arm(n).asks(t, armed(d, was), armed(d, n), api.OK)
		}
		for _, n := range []int{-2, -3, -77, math.MinInt} {
			arm(n).asks(t, armed(d, was), armed(d, was), api.ErrArg)
		}
	}
}

// P22.3: Crash keeps what is safe, and as much as it is told of what is behind in each file; all of that is safe then, and there is power.
func TestCrash(t *testing.T) {
	d := of(20, file("a", "12345", 2), file("b", "678", 0), file("c", "90", 2), file("d", "", 0))
	for _, c := range []struct {
		keep int
		a, b string
	}{
		{0, "12", ""}, {-1, "12", ""}, {-2, "12", ""}, {math.MinInt, "12", ""}, {math.MinInt + 1, "12", ""},
		{1, "123", "6"}, {2, "1234", "67"}, {3, "12345", "678"}, {4, "12345", "678"}, {20, "12345", "678"}, {math.MaxInt, "12345", "678"}, {math.MaxInt - 1, "12345", "678"},
	} {
		want := of(20, file("a", c.a, len(c.a)), file("b", c.b, len(c.b)), file("c", "90", 2), file("d", "", 0))
		for _, n := range []int{-1, 0, 1, math.MaxInt} {
			crash(c.keep).asks(t, armed(d, n), want, api.OK)
			crash(c.keep).asks(t, dead(armed(d, n)), want, api.OK)
		}
		crash(c.keep).asks(t, of(0), of(0), api.OK)
		crash(c.keep).asks(t, dead(armed(of(7), 3)), of(7), api.OK)
	}
}
