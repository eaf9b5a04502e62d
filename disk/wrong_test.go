package disk_test

import (
	"math"
	"slices"
	"strings"
	"testing"

	"plexus/api"
	"plexus/disk"
)

// good answers a disk that may be, with files that have safe bytes and others.
func good() api.Disk {
	return of(20, file("a", "12", 1), file("b", "", 0), file("c", "345", 3), file("d", "6", 0))
}

// turned answers a good disk, but for what turn does to it.
func turned(turn func(*api.Disk)) api.Disk {
	d := good()
	turn(&d)
	return d
}

// wrong are disks that may not be, in each of the ways that the chapter names, at each file.
func wrong() []api.Disk {
	l := []api.Disk{
		turned(func(d *api.Disk) { d.Room = -1 }), turned(func(d *api.Disk) { d.Room = math.MinInt }), turned(func(d *api.Disk) { d.Room = roomMost + 1 }), turned(func(d *api.Disk) { d.Room = math.MaxInt }),
		turned(func(d *api.Disk) { d.Room = 5 }), turned(func(d *api.Disk) { d.Room = 0 }), of(-1), of(roomMost + 1), armed(of(3), -2), armed(of(3), math.MinInt),
		turned(func(d *api.Disk) { d.Arm = -2 }), turned(func(d *api.Disk) { d.Arm = -3 }), turned(func(d *api.Disk) { d.Arm = math.MinInt }),
		of(100, manyFiles(filesMost+1, "x")...), of(100, manyFiles(filesMost+1, "")...), of(1000, manyFiles(500, "")...), of(filesMost-1, manyFiles(filesMost, "x")...),
		of(roomMost, file("a", strings.Repeat("x", roomMost+1), 0)), of(roomMost, file("a", strings.Repeat("x", roomMost), 0), file("b", "y", 0)), of(0, file("a", "x", 0)),
	}
	for i, f := range good().Files {
		for _, safe := range []int{-1, len(f.Data) + 1, math.MinInt, math.MaxInt} {
			l = append(l, turned(func(d *api.Disk) { d.Files[i].Safe = safe }))
		}
		for _, name := range []string{"", strings.Repeat(f.Name, nameMost+1), strings.Repeat(f.Name, 300)} {
			l = append(l, turned(func(d *api.Disk) { d.Files[i].Name = name }))
		}
		if i > 0 {
			l = append(l, turned(func(d *api.Disk) { d.Files[i].Name = d.Files[i-1].Name }), turned(func(d *api.Disk) { d.Files[i].Name, d.Files[i-1].Name = d.Files[i-1].Name, d.Files[i].Name }))
		}
	}
	for _, names := range [][2]string{{"aa", "a"}, {"ab", "aa"}, {"b", "ab"}, {"\x80", "\x7f"}, {"\xff", "a"}, {"a", "\x00"}, {"a", "B"}} {
		l = append(l, of(9, file(names[0], "", 0), file(names[1], "", 0)))
	}
	return l
}

// badNames are names that no file may have.
func badNames() []string {
	return []string{"", strings.Repeat("a", nameMost+1), strings.Repeat("a", nameMost+2), strings.Repeat("a", 300), strings.Repeat("\x00", nameMost+1)}
}

// changes are calls that change a file of this name, of much and of little.
func changes(name string) []call {
	return []call{put(name, ""), put(name, "x"), put(name, strings.Repeat("x", 30)), grow(name, ""), grow(name, "x"), grow(name, strings.Repeat("x", 30)), sync(name), drop(name)}
}

// askAll asks all calls of a disk that is refused, with all kinds of arguments.
func askAll(t *testing.T, d api.Disk, want api.Errno) {
	t.Helper()
	for _, name := range append(badNames(), "a", "b", "c", "d", "x") {
		for _, c := range changes(name) {
			c.asks(t, d, d, want)
		}
		askRead(t, d, name, "", want)
	}
	for _, n := range []int{-3, -2, -1, 0, 1, math.MinInt, math.MaxInt} {
		arm(n).asks(t, d, d, want)
	}
	askNames(t, d)
}

// P22.1, R2: Check is false of what may not be; all calls tell that first, though the disk is dead, and leave it as it was.
func TestOfWrongDisks(t *testing.T) {
	askCheck(t, good(), true)
	for _, d := range wrong() {
		for _, d := range []api.Disk{d, dead(d)} {
			askCheck(t, d, false)
			askAll(t, d, api.ErrForm)
			for _, keep := range []int{-1, 0, 1, math.MinInt, math.MaxInt} {
				crash(keep).asks(t, d, d, api.OK)
			}
		}
	}
}

// P22.1, R2: of a dead disk that is told ahead of all but its form; a crash alone brings it up again.
func TestOfDeadDisks(t *testing.T) {
	for _, n := range []int{-1, 0, 1, math.MaxInt} {
		for _, d := range []api.Disk{dead(armed(good(), n)), dead(armed(of(0), n)), dead(armed(of(100, manyFiles(filesMost, "x")...), n))} {
			askCheck(t, d, true)
			askAll(t, d, api.ErrPower)
			up := disk.Crash(d, 0)
			arm(3).asks(t, up, armed(up, 3), api.OK)
			askRead(t, up, "x", "", api.ErrNone)
		}
	}
}

// P22.1, R2: a name that no file may have is told ahead of what there is not, of what is full, and of the power.
func TestOfBadNames(t *testing.T) {
	for _, n := range []int{-1, 0, 1} {
		for _, d := range []api.Disk{armed(good(), n), armed(of(0), n), armed(of(6, good().Files...), n), armed(of(100, manyFiles(filesMost, "x")...), n)} {
			for _, name := range badNames() {
				for _, c := range changes(name) {
					c.asks(t, d, d, api.ErrArg)
				}
				askRead(t, d, name, "", api.ErrArg)
			}
		}
	}
	long := strings.Repeat("a", nameMost)
	put(long, "x").asks(t, of(9), of(9, file(long, "x", 1)), api.OK)
	grow(long, "x").asks(t, of(9), of(9, file(long, "x", 0)), api.OK)
	askRead(t, of(9, file(long, "x", 0)), long, "x", api.OK)
}

// R1: what no call made, a zero value, is a disk of no room, whose power goes at once.
func TestOfZero(t *testing.T) {
	askCheck(t, api.Disk{}, true)
	put("a", "x").asks(t, api.Disk{}, api.Disk{}, api.ErrFull)
	put("a", "").asks(t, api.Disk{}, api.Disk{Dead: true}, api.ErrPower)
	sync("a").asks(t, api.Disk{}, api.Disk{}, api.ErrNone)
	askRead(t, api.Disk{}, "a", "", api.ErrNone)
	askNames(t, api.Disk{})
	crash(3).asks(t, api.Disk{}, of(0), api.OK)
	arm(-1).asks(t, api.Disk{}, of(0), api.OK)
}

// P22.2, P22.3, R3: two disks know nothing of each other, though one came of the other one.
func TestTwoDisks(t *testing.T) {
	d := good()
	first, _ := disk.Append(d, "a", []byte("x"))
	second, _ := disk.Append(d, "a", []byte("y"))
	third, _ := disk.Append(first, "a", []byte("z"))
	fourth, _ := disk.Append(first, "a", []byte("w"))
	for i, want := range []string{"12", "12x", "12y", "12xz", "12xw"} {
		askRead(t, []api.Disk{d, first, second, third, fourth}[i], "a", want, api.OK)
	}
}

// withRoom answers a disk whose lists have room behind their ends, and what stands there: a file, and bytes behind each file's.
func withRoom() (api.Disk, []api.File, [][]byte) {
	var files []api.File
	var bytes [][]byte
	for _, f := range good().Files {
		all := append(slices.Clone(f.Data), "behind"...)
		bytes = append(bytes, all)
		files = append(files, api.File{Name: f.Name, Data: all[:len(f.Data)], Safe: f.Safe})
	}
	files = append(files, file("room", "behind", 2))
	return api.Disk{Files: files[:len(files)-1], Room: 20, Arm: -1}, files, bytes
}

// allCalls are calls of each kind, done and refused.
func allCalls() []call {
	l := []call{arm(-1), arm(0), arm(-2), crash(-1), crash(0), crash(1), crash(9)}
	for _, name := range []string{"", "A", "a", "aa", "b", "c", "d", "e"} {
		l = append(l, changes(name)...)
	}
	return l
}

// wreck writes over all that a disk's lists hold, and behind their ends.
func wreck(d api.Disk) {
	for i, f := range d.Files {
		all := f.Data[:cap(f.Data)]
		for k := range all {
			all[k] = '!'
		}
		d.Files[i] = file("wreck", "!", 1)
	}
	all := d.Files[:cap(d.Files)]
	for i := range all {
		all[i] = file("wreck", "!", 1)
	}
}

// R3, R7: what stands behind the ends of what is handed in stays; what is answered is the caller's own, who may write over it; those that are refused are so, too.
func TestAnswersAreTheCallers(t *testing.T) {
	for _, n := range []int{-1, 0, 1} {
		for _, c := range allCalls() {
			for _, turn := range []func(*api.Disk){func(*api.Disk) {}, func(d *api.Disk) { d.Dead = true }, func(d *api.Disk) { d.Room = 0 }} {
				d, files, bytes := withRoom()
				d.Arm = n
				turn(&d)
				got, _ := c.does(d)
				wreck(got)
				for i, f := range good().Files {
					if string(bytes[i]) != string(f.Data)+"behind" || files[i].Name != f.Name || files[i].Safe != f.Safe || len(files[i].Data) != len(f.Data) {
						t.Errorf("%v: file %d is %+v, %q", c, i, files[i], bytes[i])
					}
				}
				if last := files[len(files)-1]; last.Name != "room" || string(last.Data) != "behind" {
					t.Errorf("%v: behind the files is %+v", c, last)
				}
			}
		}
	}
}

// R3: no two lists of an answer share memory, though those that were handed in do.
func TestListsOfAnAnswerAreApart(t *testing.T) {
	data := []byte("1234")
	for _, n := range []int{-1, 0, 1} {
		for _, c := range allCalls() {
			d := api.Disk{Files: []api.File{{Name: "a", Data: data, Safe: 1}, {Name: "b", Data: data, Safe: 4}, {Name: "c", Data: data[:2]}}, Room: 30, Arm: n}
			got, _ := c.does(d)
			want := again(got)
			for i, f := range got.Files {
				all := f.Data[:cap(f.Data)]
				for k := range all {
					all[k] = '!'
				}
				got.Files[i].Data, want.Files[i].Data = nil, nil
				if !same(got, want) || string(data) != "1234" {
					t.Errorf("%v: file %d of %+v is written over, and there is %+v, %q", c, i, brief(want), brief(got), data)
				}
			}
		}
	}
}

// R3: bytes that are put, or appended, are read and kept nowhere; they may be a piece of the disk's own.
func TestDataIsKeptNowhere(t *testing.T) {
	for _, does := range []func(api.Disk, string, []byte) (api.Disk, api.Errno){disk.Put, disk.Append} {
		for _, n := range []int{-1, 0} {
			for _, name := range []string{"a", "new"} {
				room := []byte("xyz behind")
				data := room[:3]
				got, _ := does(armed(good(), n), name, data)
				want := again(got)
				wreck(got)
				if string(room) != "xyz behind" {
					t.Errorf("what was handed in: %q", room)
				}
				got, _ = does(armed(good(), n), name, data)
				data[0], data[2] = '!', '!'
				if !same(got, want) {
					t.Errorf("%+v, want %+v", got, want)
				}
			}
		}
		d := good()
		got, err := does(d, "a", d.Files[2].Data)
		d.Files[2].Data[0] = '!'
		if b, _ := disk.Read(got, "a"); err != api.OK || !strings.HasSuffix(string(b), "345") {
			t.Errorf("%q, %d", b, err)
		}
	}
	d := good()
	got, err := disk.Append(d, "a", d.Files[0].Data[:1])
	want := of(20, append([]api.File{file("a", "121", 1)}, good().Files[1:]...)...)
	if err != api.OK || !same(got, want) || !same(d, good()) {
		t.Errorf("%+v, %d", got, err)
	}
}

// R3: what Read and Names answer is the caller's own.
func TestReadIsTheCallers(t *testing.T) {
	d, _, all := withRoom()
	for _, name := range []string{"a", "b", "c", "d"} {
		b, _ := disk.Read(d, name)
		for i := range b[:cap(b)] {
			b[:cap(b)][i] = '!'
		}
	}
	names := disk.Names(d)
	names[0] = "wreck"
	askNames(t, d, "a", "b", "c", "d")
	for i, f := range good().Files {
		if string(all[i]) != string(f.Data)+"behind" {
			t.Errorf("%q", all[i])
		}
	}
}

// R2, R6: beside an error of New and of Read all else is zero.
func TestBesideErrors(t *testing.T) {
	for _, room := range []int{-1, roomMost + 1} {
		if d, err := disk.New(room); err != api.ErrArg || !same(d, api.Disk{}) {
			t.Errorf("New(%d) = %+v, %d", room, d, err)
		}
	}
	for _, d := range []api.Disk{good(), dead(good()), turned(func(d *api.Disk) { d.Room = 1 })} {
		for _, name := range append(badNames(), "x") {
			if b, err := disk.Read(d, name); len(b) > 0 || err == api.OK {
				t.Errorf("Read(%+v, %q) = %q, %d", d, name, b, err)
			}
		}
	}
}

// P22.2, R1: a disk armed by the greatest number does as many calls as one cares to wait for; R8: each call answers the same again.
func TestTheSameAgain(t *testing.T) {
	d := armed(good(), math.MaxInt)
	for i := range 1000 {
		next, err := disk.Append(d, "a", []byte{byte(i)})
		twice, errTwice := disk.Append(d, "a", []byte{byte(i)})
		if err != errTwice || !same(next, twice) {
			t.Fatalf("%+v, %d, and %+v, %d", next, err, twice, errTwice)
		}
		if i < 14 && (err != api.OK || next.Arm != math.MaxInt-i-1) || i >= 14 && err != api.ErrFull {
			t.Fatalf("call %d: %+v, %d", i, next, err)
		}
		d = next
	}
}
