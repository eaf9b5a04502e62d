package disk_test

import (
	"maps"
	"math"
	"math/rand"
	"slices"
	"strings"
	"testing"

	"plexus/api"
	"plexus/disk"
)

// part is what the account knows of a file: what is safe of it, and what stands behind.
type part struct {
	safe   string
	behind string
}

// account is the document's account of a disk that may be.
type account struct {
	files map[string]part
	room  int
	arm   int
	dead  bool
}

// accountOf answers the account of a disk.
func accountOf(d api.Disk) account {
	a := account{files: map[string]part{}, room: d.Room, arm: d.Arm, dead: d.Dead}
	for _, f := range d.Files {
		a.files[f.Name] = part{safe: string(f.Data[:f.Safe]), behind: string(f.Data[f.Safe:])}
	}
	return a
}

// disk answers the disk that the account is of.
func (a account) disk() api.Disk {
	d := api.Disk{Room: a.room, Arm: a.arm, Dead: a.dead}
	for _, name := range slices.Sorted(maps.Keys(a.files)) {
		p := a.files[name]
		d.Files = append(d.Files, file(name, p.safe+p.behind, len(p.safe)))
	}
	return d
}

// after answers the account behind a change that is asked of the files, and is done if there is room.
func (a account) after(files map[string]part) (account, api.Errno) {
	size := 0
	for _, p := range files {
		size += len(p.safe) + len(p.behind)
	}
	if size > a.room || len(files) > filesMost {
		return a, api.ErrFull
	}
	b := a
	b.files = files
	return b, api.OK
}

// told answers what the document says of a call.
func (a account) told(c call) (account, api.Errno) {
	if c.what == "Crash" {
		return a.crashed(c.n), api.OK
	}
	if a.dead {
		return a, api.ErrPower
	}
	if c.what == "Arm" {
		if c.n < -1 {
			return a, api.ErrArg
		}
		a.arm = c.n
		return a, api.OK
	}
	if c.name == "" || len(c.name) > nameMost {
		return a, api.ErrArg
	}
	b, err := a.changed(c)
	switch {
	case err != api.OK:
		return a, err
	case a.arm == 0 && c.what == "Append":
		b.dead = true
		return b, api.ErrPower
	case a.arm == 0:
		a.dead = true
		return a, api.ErrPower
	case a.arm > 0:
		b.arm--
	}
	return b, api.OK
}

// changed answers the account behind one of the four calls that change a file, if there is power.
func (a account) changed(c call) (account, api.Errno) {
	files := maps.Clone(a.files)
	p, ok := files[c.name]
	switch c.what {
	case "Put":
		files[c.name] = part{safe: c.data}
		return a.after(files)
	case "Append":
		files[c.name] = part{safe: p.safe, behind: p.behind + c.data}
		return a.after(files)
	}
	if !ok {
		return a, api.ErrNone
	}
	if c.what == "Drop" {
		delete(files, c.name)
	} else {
		files[c.name] = part{safe: p.safe + p.behind}
	}
	return a.after(files)
}

// crashed answers the account behind a crash.
func (a account) crashed(keep int) account {
	b := account{files: map[string]part{}, room: a.room, arm: -1}
	for name, p := range a.files {
		kept := p.safe
		for i := 0; i < len(p.behind) && i < keep; i++ {
			kept += p.behind[i : i+1]
		}
		b.files[name] = part{safe: kept}
	}
	return b
}

// looks holds what there is to be read of a disk against an account of it.
func (a account) looks(t *testing.T, d api.Disk, names []string) {
	t.Helper()
	if a.dead {
		askNames(t, d)
	} else {
		askNames(t, d, slices.Sorted(maps.Keys(a.files))...)
	}
	for _, name := range names {
		p, ok := a.files[name]
		switch {
		case a.dead:
			askRead(t, d, name, "", api.ErrPower)
		case name == "" || len(name) > nameMost:
			askRead(t, d, name, "", api.ErrArg)
		case !ok:
			askRead(t, d, name, "", api.ErrNone)
		default:
			askRead(t, d, name, p.safe+p.behind, api.OK)
		}
	}
}

// follow does a call to a disk, holds it against the account, and answers both behind it.
func follow(t *testing.T, d api.Disk, c call) api.Disk {
	t.Helper()
	want, err := accountOf(d).told(c)
	c.asks(t, d, want.disk(), err)
	got, _ := c.does(d)
	askCheck(t, got, true)
	return got
}

// few are calls whose every order is gone through.
func few() []call {
	return []call{put("a", "1"), grow("a", "23"), sync("a"), drop("a"), grow("aa", "4"), put("aa", ""), sync("aa"), arm(0), arm(2), crash(0), crash(1)}
}

// everyOrder goes through all scripts of so many calls behind a disk.
func everyOrder(t *testing.T, d api.Disk, calls int) {
	accountOf(d).looks(t, d, []string{"a", "aa", "b"})
	if calls == 0 || t.Failed() {
		return
	}
	for _, c := range few() {
		everyOrder(t, follow(t, d, c), calls-1)
	}
}

// P22.1, P22.2, P22.3: all scripts of four calls, upon disks with much room and with little.
func TestEveryOrder(t *testing.T) {
	for _, room := range []int{0, 1, 3, 100} {
		everyOrder(t, of(room), 4)
	}
	everyOrder(t, of(5, file("a", "xy", 1), file("aa", "", 0), file("b", "z", 0)), 3)
	everyOrder(t, dead(of(5, file("a", "xy", 1), file("b", "z", 0))), 3)
}

// chance answers one of some, by chance.
func chance[T any](r *rand.Rand, l ...T) T {
	return l[r.Intn(len(l))]
}

// anyName answers a name by chance, now and then one that no file may have.
func anyName(r *rand.Rand) string {
	long := strings.Repeat("n", nameMost)
	return chance(r, "a", "a", "b", "b", "ab", "aa", "\xff", long, long[1:], long[1:]+"m", "", long+"n")
}

// anyBytes answers bytes by chance, mostly few.
func anyBytes(r *rand.Rand) string {
	b := make([]byte, r.Intn(chance(r, 1, 4, 4, 9, 30)))
	for i := range b {
		b[i] = byte(r.Intn(256))
	}
	return string(b)
}

// anyCall answers a call by chance.
func anyCall(r *rand.Rand) call {
	name, data := anyName(r), anyBytes(r)
	switch r.Intn(16) {
	case 0:
		return arm(chance(r, -1, -1, -2, 0, 1, 2, 5, math.MaxInt, math.MinInt))
	case 1:
		return crash(chance(r, -1, 0, 1, 2, 5, 100, math.MinInt, math.MaxInt))
	case 2, 3:
		return drop(name)
	case 4, 5, 6:
		return sync(name)
	case 7, 8, 9:
		return put(name, data)
	}
	return grow(name, data)
}

// P22.1, P22.2, P22.3: histories by chance, upon disks of any room, each step held against the document's words.
func TestHistories(t *testing.T) {
	names := []string{"a", "b", "ab", "aa", "\xff", strings.Repeat("n", nameMost), strings.Repeat("n", nameMost-1), "", strings.Repeat("n", nameMost+1), "x"}
	for seed := range 400 {
		r := rand.New(rand.NewSource(int64(seed)))
		d := of(chance(r, 0, 5, 20, 60, 100, 1000))
		for range 120 {
			d = follow(t, d, anyCall(r))
			accountOf(d).looks(t, d, names)
		}
	}
}

// P22.1, P22.2, P22.3: many files come and go, beyond as many as there may be.
func TestManyFilesComeAndGo(t *testing.T) {
	for seed := range 8 {
		r := rand.New(rand.NewSource(int64(seed)))
		d := of(chance(r, 70, 1000))
		for range 600 {
			name := "f" + string(rune('0'+r.Intn(75)))
			c := chance(r, put(name, "x"), put(name, ""), grow(name, "y"), grow(name, "yz"), sync(name), drop(name))
			if r.Intn(4) == 0 && len(d.Files) > 0 {
				// Few names are hit by chance alone, so that some are taken from those that are there.
				c.name = d.Files[r.Intn(len(d.Files))].Name
			}
			d = follow(t, d, c)
		}
		if len(d.Files) < 20 {
			t.Errorf("seed %d: %d files", seed, len(d.Files))
		}
	}
}

// story is one in which files are put, grow, are made safe and go.
func story() []call {
	return []call{
		put("base", "0123456789"), grow("log0", "aaaa"), sync("log0"), grow("log0", "bbbb"), grow("log0", "cccc"), sync("log0"), grow("log1", "dddd"),
		put("base", "01"), drop("log0"), sync("log1"), grow("log1", "eeee"), put("log1", "ffff"), grow("log1", "gggg"), grow("base", "23"), drop("base"), sync("log1"),
	}
}

// P22.2, P22.4: a story whose power goes at each call in turn: what was done ahead of it is there, and no call behind it is.
func TestPowerGoesAtEachCall(t *testing.T) {
	for n := range len(story()) + 1 {
		for _, keep := range []int{-1, 0, 1, 3, 4, 5, 100} {
			d, _ := disk.Arm(of(100), n)
			want := accountOf(of(100))
			for i, c := range story() {
				if i < n {
					want, _ = want.told(c)
				} else if i == n && c.what == "Append" {
					want, _ = want.changed(c)
				}
				d = follow(t, d, c)
				if d.Dead != (i >= n) {
					t.Errorf("armed by %d, behind call %d: %+v", n, i, d)
				}
			}
			crash(keep).asks(t, d, want.crashed(keep).disk(), api.OK)
		}
	}
}

// sure is what a history by chance knows to be safe of each file, by the calls alone.
type sure map[string]string

// learn takes in a call that was answered with an error, and the bytes that a file had behind it.
func (s sure) learn(c call, err api.Errno, d api.Disk) {
	if err != api.OK {
		return
	}
	switch c.what {
	case "Put":
		s[c.name] = c.data
	case "Sync":
		b, _ := disk.Read(d, c.name)
		s[c.name] = string(b)
	case "Drop":
		delete(s, c.name)
	}
}

// files answers the bytes of each file, of a dead disk too.
func files(d api.Disk) map[string]string {
	m := map[string]string{}
	for _, f := range d.Files {
		m[f.Name] = string(f.Data)
	}
	return m
}

// asksCrash holds what a crash leaves against what is sure, and against what was there.
func (s sure) asksCrash(t *testing.T, d api.Disk, keep int) {
	t.Helper()
	was, left := files(d), files(disk.Crash(d, keep))
	for name, safe := range s {
		if !strings.HasPrefix(left[name], safe) {
			t.Errorf("%q: %q is safe, and %q is left", name, safe, left[name])
		}
	}
	for name, b := range left {
		old, ok := was[name]
		if !ok || !strings.HasPrefix(old, b) {
			t.Errorf("%q: %q is left of %q", name, b, old)
		}
		if keep >= len(old) && b != old {
			t.Errorf("%q: %q is left of %q, and %d were kept", name, b, old, keep)
		}
	}
	if len(left) != len(was) {
		t.Errorf("%q is left of %q", left, was)
	}
}

// P22.4: what is safe is there behind any crash, and each file is a beginning of what it was; the power goes at any time.
func TestSafeBehindAnyCrash(t *testing.T) {
	for seed := range 300 {
		r := rand.New(rand.NewSource(int64(seed)))
		d, known := of(chance(r, 20, 60, 1000)), sure{}
		for range 80 {
			c := anyCall(r)
			if c.what == "Crash" {
				known.asksCrash(t, d, c.n)
				d = disk.Crash(d, c.n)
				for name, b := range files(d) {
					known[name] = b
				}
				continue
			}
			var err api.Errno
			d, err = c.does(d)
			known.learn(c, err, d)
			for _, keep := range []int{-1, 0, 1, 3, 1000} {
				known.asksCrash(t, d, keep)
			}
		}
	}
}
