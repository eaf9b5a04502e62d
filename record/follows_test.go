package record_test

import (
	"encoding/binary"
	"hash/crc32"
	"math/rand"
	"slices"
	"testing"

	"plexus/api"
	"plexus/record"
)

// told answers what the document says of a Scan, place by place.
func told(b []byte) ([]string, int) {
	var bodies []string
	place := 0
	for len(b)-place >= least {
		n := uint64(binary.BigEndian.Uint32(b[place:]))
		if n > bodyMost || uint64(len(b)-place) < n+least {
			break
		}
		body := b[place+4:][:n]
		if binary.LittleEndian.Uint32(b[place+4:][n:]) != crc32.ChecksumIEEE(body) {
			break
		}
		bodies = append(bodies, string(body))
		place += int(n) + least
	}
	return bodies, place
}

// askTold asks a Scan, and holds its answer against what the document says.
func askTold(t *testing.T, b []byte) {
	t.Helper()
	want, place := told(b)
	askScan(t, b, want, place)
}

// put answers bytes with the records of bodies behind them.
func put(t *testing.T, b []byte, bodies ...string) []byte {
	t.Helper()
	for _, body := range bodies {
		was := len(b)
		var err api.Errno
		b, err = record.Put(b, []byte(body))
		if err != api.OK || len(b) != was+record.Size([]byte(body)) {
			t.Fatalf("Put of %d bytes behind %d = %d bytes, %d", len(body), was, len(b), err)
		}
	}
	return b
}

// lists answers all lists of at most so many of the bodies.
func lists(most int, bodies ...string) [][]string {
	l := [][]string{nil}
	begin := 0
	for range most {
		end := len(l)
		for _, ahead := range l[begin:end] {
			for _, body := range bodies {
				l = append(l, append(slices.Clone(ahead), body))
			}
		}
		begin = end
	}
	return l
}

// chance answers some bodies by chance: of few bytes mostly, of the same one often.
func chance(r *rand.Rand, most int) []string {
	var l []string
	for range r.Intn(most + 1) {
		n := r.Intn(12)
		if r.Intn(20) == 0 {
			n = r.Intn(700)
		}
		b := make([]byte, n)
		if r.Intn(3) > 0 {
			r.Read(b)
		}
		l = append(l, string(b))
	}
	return l
}

// P23.2: what is put is scanned, in order: all lists of few, and some by chance.
func TestWhatIsPutIsScanned(t *testing.T) {
	all := lists(4, "", "a", "\x00\x00\x00\x00", "\xff\xff", "bc")
	r := rand.New(rand.NewSource(23))
	for range 300 {
		all = append(all, chance(r, 30))
	}
	for _, l := range all {
		b := put(t, nil, l...)
		askScan(t, b, l, len(b))
	}
}

// P23.2: a log grows record by record, and is scanned behind each.
func TestLogGrows(t *testing.T) {
	r := rand.New(rand.NewSource(231))
	var b []byte
	var all []string
	for range 60 {
		for _, body := range chance(r, 4) {
			b = put(t, b, body)
			all = append(all, body)
			askScan(t, b, all, len(b))
		}
	}
	whole := put(t, nil, all...)
	if !slices.Equal(b, whole) {
		t.Error("what is put in several goes is not what is put in one")
	}
}

// askCuts cuts records at each place in turn: those that are whole are scanned, up to the one that is not.
func askCuts(t *testing.T, l []string) {
	t.Helper()
	b := put(t, nil, l...)
	whole, end := 0, 0
	for n := range len(b) + 1 {
		for whole < len(l) && end+len(l[whole])+least <= n {
			end += len(l[whole]) + least
			whole++
		}
		askScan(t, b[:n], l[:whole], end)
	}
}

// P23.2: of records that are cut anywhere those that are whole are scanned.
func TestCuts(t *testing.T) {
	for _, l := range lists(3, "", "a", "bcdef", "\x00\x00\x00\x00\x00") {
		askCuts(t, l)
	}
	r := rand.New(rand.NewSource(232))
	for range 40 {
		askCuts(t, chance(r, 8))
	}
	askCuts(t, []string{string(written("a")), string(written("b", "c")), ""})
	b := put(t, nil, "a", long(bodyMost), "b")
	for _, n := range []int{9, 10, 12, 13, 14, 100, 30000, 9 + bodyMost, 9 + bodyMost + 4, 9 + bodyMost + 7} {
		askScan(t, b[:n], []string{"a"}, 9)
	}
	for _, n := range []int{9 + bodyMost + 8, 9 + bodyMost + 9, 9 + bodyMost + 16} {
		askScan(t, b[:n], []string{"a", long(bodyMost)}, 9+bodyMost+8)
	}
}

// P23.2: records that were cut do not come back with what is put behind them.
func TestPutBehindCut(t *testing.T) {
	whole := written("a", "bcd")
	for n := 9 + 1; n < len(whole); n++ {
		b := put(t, whole[:n:n], "e")
		askScan(t, b, []string{"a"}, 9)
		// Behind the place that Scan tells, they do.
		b = put(t, whole[:9:9], "e")
		askScan(t, b, []string{"a", "e"}, 18)
	}
}

// P23.2: one of which a byte of the body, or of its sum, is another one is none, and nothing behind it is found; each byte is each other one.
func TestChangedBytes(t *testing.T) {
	for _, body := range []string{"", "a", "bcde", "\x00\x00\x00\x00\x00", string(written("x", "y"))} {
		ahead, behind := written("ahead", ""), written("", "behind")
		b := slices.Concat(ahead, written(body), behind)
		for i := len(ahead) + 4; i < len(b)-len(behind); i++ {
			was := b[i]
			for x := range 256 {
				if b[i] = byte(x); b[i] != was {
					askScan(t, b, []string{"ahead", ""}, len(ahead))
				}
			}
			b[i] = was
		}
		askScan(t, b, []string{"ahead", "", body, "", "behind"}, len(b))
	}
}

// P23.1, P23.2: a changed byte of a long body, at places near its ends and between.
func TestChangedBytesOfLongBody(t *testing.T) {
	ahead := written("ahead")
	b := slices.Concat(ahead, written(long(bodyMost)), written("behind"))
	end := len(ahead) + 4 + bodyMost + 4
	for _, i := range []int{len(ahead) + 4, len(ahead) + 5, 30000, 60000, end - 6, end - 5, end - 4, end - 1} {
		b[i] ^= 1 << (i % 8)
		askScan(t, b, []string{"ahead"}, len(ahead))
		b[i] ^= 1 << (i % 8)
	}
	askScan(t, b, []string{"ahead", long(bodyMost), "behind"}, len(b))
}

// P23.1: a byte of the number is another one: those ahead are scanned, and what is read from there is no record here, as no sum stands where it says.
func TestChangedNumbers(t *testing.T) {
	for _, body := range []string{"", "a", "bcde", "some more bytes"} {
		ahead, behind := written("ahead", ""), written("f", "behind")
		b := slices.Concat(ahead, written(body), behind)
		for i := len(ahead); i < len(ahead)+4; i++ {
			was := b[i]
			for x := range 256 {
				if b[i] = byte(x); b[i] != was {
					askScan(t, b, []string{"ahead", ""}, len(ahead))
					askTold(t, b)
				}
			}
			b[i] = was
		}
		askScan(t, b, []string{"ahead", "", body, "f", "behind"}, len(b))
	}
}

// P23.1: the number is not sealed: where another one stands, and a sum where it says, a record stands, and what is behind it is scanned.
func TestNumberIsNotSealed(t *testing.T) {
	sum := string(binary.LittleEndian.AppendUint32(nil, crc32.ChecksumIEEE([]byte("a"))))
	body := "a" + sum + string(written("b"))
	b := written("ahead", body, "c")
	askScan(t, b, []string{"ahead", body, "c"}, len(b))
	b[13+3] = 1
	// What is left of the record that was there is a sum, which is no record.
	askScan(t, b, []string{"ahead", "a", "b"}, 13+9+9)
	askTold(t, b)
}

// P23.1, P23.2: each byte of records by chance is another one, in turn, as the document says.
func TestChangesByChance(t *testing.T) {
	r := rand.New(rand.NewSource(233))
	for range 60 {
		b := put(t, nil, chance(r, 6)...)
		for i := range b {
			was := b[i]
			b[i] ^= byte(1 + r.Intn(255))
			askTold(t, b)
			b[i] = was
		}
	}
}
