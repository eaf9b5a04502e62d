package record_test

import (
	"bytes"
	"encoding/binary"
	"hash/crc32"
	"slices"
	"strings"
	"testing"

	"plexus/api"
	"plexus/record"
)

// bodyMost is how many bytes a body has at most, and least how many a record has, as the document has them.
const (
	bodyMost = 60000
	least    = 8
)

// numbered answers bytes that stand as a record of a body would, but that their number is another one.
func numbered(n uint32, body string) []byte {
	b := binary.BigEndian.AppendUint32(nil, n)
	b = append(b, body...)
	return binary.LittleEndian.AppendUint32(b, crc32.ChecksumIEEE([]byte(body)))
}

// written answers the records of bodies, one behind the other.
func written(bodies ...string) []byte {
	var b []byte
	for _, body := range bodies {
		b = append(b, numbered(uint32(len(body)), body)...)
	}
	return b
}

// long answers a body of so many bytes, of which no few side by side are as those elsewhere.
func long(n int) string {
	b := make([]byte, n)
	for i := range b {
		b[i] = byte(i*i>>3 + i>>8)
	}
	return string(b)
}

// brief tells bytes in a test's words, without all of many.
func brief(b []byte) []byte {
	return b[:min(len(b), 40)]
}

// texts answers bodies as texts.
func texts(bodies [][]byte) []string {
	var l []string
	for _, body := range bodies {
		l = append(l, string(body))
	}
	return l
}

// askPut asks a Put, and holds its answer against what is wanted; what was handed in has to be as it was.
func askPut(t *testing.T, b []byte, body []byte, want []byte, wantErr api.Errno) {
	t.Helper()
	wasB, wasBody := string(b), string(body)
	got, err := record.Put(b, body)
	if err != wantErr || !bytes.Equal(got, want) {
		t.Errorf("Put(%d, %d) has %d bytes, %d, %d, want %d bytes, %d, %d", brief(b), brief(body), len(got), brief(got), err, len(want), brief(want), wantErr)
	}
	if string(b) != wasB || string(body) != wasBody {
		t.Errorf("Put(%d, %d): an argument is not as it was", brief(b), brief(body))
	}
}

// askSize asks a Size.
func askSize(t *testing.T, body []byte, want int) {
	t.Helper()
	if got := record.Size(body); got != want {
		t.Errorf("Size of %d bytes = %d, want %d", len(body), got, want)
	}
}

// askScan asks a Scan, and holds its answer against what is wanted; what was handed in has to be as it was.
func askScan(t *testing.T, b []byte, want []string, wantPlace int) {
	t.Helper()
	was := string(b)
	got, place := record.Scan(b)
	if place != wantPlace || !slices.Equal(texts(got), want) {
		t.Errorf("Scan of %d bytes, %d, = %d bodies, %.40q, %d, want %d, %.40q, %d", len(b), brief(b), len(got), texts(got), place, len(want), want, wantPlace)
	}
	if string(b) != was {
		t.Errorf("Scan of %d: the argument is not as it was", brief(b))
	}
}

// P23.1, example 1: Put of the body a.
func TestExample(t *testing.T) {
	got, err := record.Put(nil, []byte("a"))
	if want := []byte{0, 0, 0, 1, 'a', 0x43, 0xBE, 0xB7, 0xE8}; err != api.OK || !bytes.Equal(got, want) {
		t.Errorf("Put = %d, %d, want %d, 0", got, err, want)
	}
	askSize(t, []byte("a"), 9)
	askScan(t, got, []string{"a"}, 9)
}

// P23.1: records written out byte by byte, behind nothing and behind bytes, whatever those are.
func TestPutWrittenOut(t *testing.T) {
	for _, c := range []struct {
		b    string
		body string
		want string
	}{
		{"", "", "\x00\x00\x00\x00\x00\x00\x00\x00"},
		{"", "123456789", "\x00\x00\x00\x09123456789\x26\x39\xF4\xCB"},
		{"", "\x00", "\x00\x00\x00\x01\x00\x8D\xEF\x02\xD2"},
		{"", "\xff", "\x00\x00\x00\x01\xff\x00\x00\x00\xFF"},
		{"", "abc", "\x00\x00\x00\x03abc\xC2\x41\x24\x35"},
		{"x", "", "x\x00\x00\x00\x00\x00\x00\x00\x00"},
		{"\x00\x00\x00", "abc", "\x00\x00\x00\x00\x00\x00\x03abc\xC2\x41\x24\x35"},
		{"\x00\x00\x00\x01a\x43\xBE\xB7\xE8", "abc", "\x00\x00\x00\x01a\x43\xBE\xB7\xE8\x00\x00\x00\x03abc\xC2\x41\x24\x35"},
		{"\xff\xff\xff\xff", "\xff", "\xff\xff\xff\xff\x00\x00\x00\x01\xff\x00\x00\x00\xFF"},
	} {
		askPut(t, []byte(c.b), []byte(c.body), []byte(c.want), api.OK)
		askSize(t, []byte(c.body), len(c.want)-len(c.b))
	}
}

// P23.1: the number stands in four bytes, the highest first, whatever bytes it has; Size tells how many bytes the record has.
func TestNumbers(t *testing.T) {
	for _, c := range []struct {
		n    int
		want string
	}{
		{0, "\x00\x00\x00\x00"}, {1, "\x00\x00\x00\x01"}, {2, "\x00\x00\x00\x02"}, {127, "\x00\x00\x00\x7f"}, {128, "\x00\x00\x00\x80"}, {255, "\x00\x00\x00\xff"},
		{256, "\x00\x00\x01\x00"}, {257, "\x00\x00\x01\x01"}, {511, "\x00\x00\x01\xff"}, {4660, "\x00\x00\x12\x34"}, {32767, "\x00\x00\x7f\xff"}, {32768, "\x00\x00\x80\x00"},
		{59999, "\x00\x00\xea\x5f"}, {bodyMost, "\x00\x00\xea\x60"},
	} {
		body := long(c.n)
		for _, ahead := range []string{"", "ahead"} {
			want := ahead + c.want + body + string(binary.LittleEndian.AppendUint32(nil, crc32.ChecksumIEEE([]byte(body))))
			askPut(t, []byte(ahead), []byte(body), []byte(want), api.OK)
		}
		askSize(t, []byte(body), c.n+least)
		askScan(t, []byte(c.want+body+string(written(body)[4+c.n:])), []string{body}, c.n+least)
	}
}

// P23.1: the bodies of records one behind the other, of several lengths, and the place behind the last one; a body may hold what looks like a record, too.
func TestScanSeveral(t *testing.T) {
	for _, l := range [][]string{
		nil, {"a"}, {""}, {"", ""}, {"", "", ""}, {"a", "bc"}, {"bc", "a"}, {"", "a", "", "bc", ""}, {"a", "a", "a"},
		{long(bodyMost)}, {long(bodyMost), "a"}, {"a", long(bodyMost), "", long(bodyMost - 1), "bc"}, {long(300), long(256), long(255)},
		{string(written("a")), "b"}, {string(written("a", "b", "c")), string(written("d")), ""}, {"\x00\x00\x00\x00\x00\x00\x00\x00", "a"}, {"\x00\x00\x00\x01", "\xff\xff\xff\xff"},
		strings.Split(strings.Repeat("x,", 1000), ","),
	} {
		var b []byte
		size := 0
		for _, body := range l {
			var err api.Errno
			if b, err = record.Put(b, []byte(body)); err != api.OK {
				t.Fatalf("Put of %d bytes: %d", len(body), err)
			}
			size += record.Size([]byte(body))
		}
		if want := written(l...); !bytes.Equal(b, want) {
			t.Errorf("%.40q: put are %d bytes, %d, want %d, %d", l, len(b), brief(b), len(want), brief(want))
		}
		askScan(t, b, l, size)
	}
}

// P23.1: of no bytes and of fewer than eight none stands; of eight one does, if they are a body of no bytes and its sum.
func TestScanFew(t *testing.T) {
	askScan(t, nil, nil, 0)
	for n := range least {
		askScan(t, make([]byte, n), nil, 0)
		askScan(t, bytes.Repeat([]byte{0xff}, n), nil, 0)
		askScan(t, written("a")[:n], nil, 0)
		askScan(t, written("", "")[:n], nil, 0)
		askScan(t, written("", "")[:least+n], []string{""}, least)
		askScan(t, append(written("a"), make([]byte, n)...), []string{"a"}, 9)
	}
	askScan(t, make([]byte, least), []string{""}, least)
	askScan(t, make([]byte, 2*least), []string{"", ""}, 2*least)
	askScan(t, make([]byte, 1000), make([]string, 125), 1000)
	askScan(t, make([]byte, 1003), make([]string, 125), 1000)
	askScan(t, written("a")[:least], nil, 0)
	for i := range least {
		for _, c := range []byte{1, 0x80, 0xff} {
			b := make([]byte, least)
			b[i] = c
			askScan(t, b, nil, 0)
		}
	}
}

// none are bytes at whose beginning no record stands, in each of the ways that the chapter names.
func none() [][]byte {
	var l [][]byte
	for n := range least {
		l = append(l, make([]byte, n), written("abcdefgh")[:n], bytes.Repeat([]byte{0xff}, n))
	}
	// More than there are, by one, by some, and by many.
	for _, body := range []string{"", "a", "abcdefgh", long(1000)} {
		n := uint32(len(body))
		for _, more := range []uint32{1, 2, 3, 4, 5, 255, 256, 50000, bodyMost - n} {
			l = append(l, numbered(n+more, body))
		}
	}
	// Above the most, whole but for that.
	for _, n := range []int{bodyMost + 1, bodyMost + 2, 61000, 1 << 16, 1<<16 + 1} {
		l = append(l, numbered(uint32(n), long(n)), numbered(uint32(n), "a"), numbered(uint32(n), ""))
	}
	// Such as would be right if one byte of the number were not read, and such as are below 0 to who reads them so.
	for _, body := range []string{"", "a", "abcdefgh", long(1000)} {
		n := uint32(len(body))
		for _, high := range []uint32{1 << 16, 1 << 17, 1 << 23, 1 << 24, 1 << 25, 1 << 30, 1 << 31, 3 << 30, 0xff << 24, 0xffff << 16, 0x8001 << 16} {
			l = append(l, numbered(high+n, body), numbered(high-n, body))
		}
		l = append(l, numbered(^n, body), numbered(-n-least, body), numbered(-n-1, body))
	}
	// A sum that is not the body's: of another one, turned round, and of all its bits.
	for _, body := range []string{"", "a", "abcdefgh", long(1000)} {
		right := written(body)
		end := len(right) - 4
		sum := binary.LittleEndian.Uint32(right[end:])
		for _, other := range []uint32{^sum, sum + 1, sum - 1, sum ^ 1<<31, crc32.ChecksumIEEE([]byte("other")), crc32.ChecksumIEEE(right[:end])} {
			l = append(l, binary.LittleEndian.AppendUint32(slices.Clone(right[:end]), other))
		}
		if body != "" {
			l = append(l, binary.BigEndian.AppendUint32(slices.Clone(right[:end]), sum))
		}
	}
	// The number turned round.
	return append(l, append([]byte{1, 0, 0, 0}, written("a")[4:]...), append([]byte{0, 0, 1, 0}, written("a")[4:]...), append([]byte{0, 1, 0, 0}, written("a")[4:]...))
}

// P23.1: up to the first place at which none stands, whatever is ahead of it.
func TestScanNone(t *testing.T) {
	for _, rest := range none() {
		for _, l := range [][]string{nil, {""}, {"a"}, {"a", "", long(300)}} {
			ahead := written(l...)
			askScan(t, slices.Concat(ahead, rest), l, len(ahead))
		}
	}
}

// P23.1, P23.2: what is behind a place at which none stands is not found, though it would be one.
func TestNothingBehindNone(t *testing.T) {
	for _, rest := range [][]byte{
		numbered(3, "abcd"), numbered(bodyMost+1, ""), numbered(bodyMost+1, "a"), numbered(1<<31, ""), numbered(1<<31+1, "a"), numbered(1<<32-1, ""), {1}, {0xff}, {0, 0, 0, 1},
		append(written("a")[:5], 0, 0, 0, 0), append(written("")[:4], 1, 0, 0, 0), {0, 0, 0, 0, 0, 0, 0, 1}, numbered(bodyMost+1, long(bodyMost+1)),
	} {
		for _, l := range [][]string{nil, {""}, {"a", "bc"}} {
			ahead := written(l...)
			askScan(t, slices.Concat(ahead, rest, written("b", "c")), l, len(ahead))
		}
	}
}
