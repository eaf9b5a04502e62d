package crc

import (
	"bytes"
	"encoding/binary"
	"hash/crc32"
	"slices"
	"strings"
	"testing"
)

// bodies are bytes of all kinds of lengths and bits.
func bodies() [][]byte {
	all := make([]byte, 256)
	for i := range all {
		all[i] = byte(i)
	}
	return [][]byte{
		nil, {}, {0}, {1}, {128}, {255}, []byte("a"), []byte("ab"), []byte("abc"), []byte("abcd"),
		make([]byte, 4), make([]byte, 9), bytes.Repeat([]byte{255}, 4), bytes.Repeat([]byte{255}, 9),
		[]byte("123456789"), []byte("plexus"), all, []byte(strings.Repeat("\x00\xff\x80\x01", 100)),
	}
}

// P2.1: Step at states whose outcome is worked out from the chapter's words alone.
func TestStepEdges(t *testing.T) {
	for _, c := range []struct {
		name string
		x    uint32
		c    byte
		want uint32
	}{
		{"no bits, no bits", 0, 0, 0},
		{"no bits, the highest of a byte", 0, 0x80, 0xEDB88320},
		{"no bits, the lowest of a byte", 0, 1, 0x77073096},
		{"no bits, all of a byte", 0, 0xFF, 0x2D02EF8D},
		{"the highest bit alone", 0x80000000, 0, 0x00800000},
		{"the highest bit alone, the highest of a byte", 0x80000000, 0x80, 0x00800000 ^ 0xEDB88320},
		{"the ninth bit alone", 0x100, 0, 1},
		{"the byte meets its like", 0xFF, 0xFF, 0},
		{"a byte meets its like in a state", 0xABCDEF12, 0x12, 0x00ABCDEF},
		{"all bits, no bits", 0xFFFFFFFF, 0, 0x2DFD1072},
		{"all bits, all bits", 0xFFFFFFFF, 0xFF, 0x00FFFFFF},
	} {
		if got := Step(c.x, c.c); got != c.want {
			t.Errorf("%s: %08X, not %08X", c.name, got, c.want)
		}
	}
}

// P2.1: all bytes at many states, against a table that others made for the same rule.
func TestStepOfAllBytes(t *testing.T) {
	states := []uint32{0, 0xFFFFFFFF, 0x80000000, 0x7FFFFFFF, 1, 0xFFFFFFFE, 0xEDB88320, 0x12345678, 0xDEADBEEF}
	for i := range 32 {
		states = append(states, 1<<i)
	}
	for _, x := range states {
		for i := range 256 {
			c := byte(i)
			want := crc32.IEEETable[byte(x)^c] ^ x>>8
			if got := Step(x, c); got != want {
				t.Fatalf("Step of %08X and %d: %08X, not %08X", x, c, got, want)
			}
		}
	}
}

// P2.1: the chapter's example, no bytes at all, and sums that are known elsewhere.
func TestSumKnown(t *testing.T) {
	for s, want := range map[string]uint32{
		"":                         0,
		"123456789":                0xCBF43926,
		"\x00":                     0xD202EF8D,
		"\xff":                     0xFF000000,
		"a":                        0xE8B7BE43,
		"abc":                      0x352441C2,
		"\x00\x00\x00\x00":         0x2144DF1C,
		"\xff\xff\xff\xff":         0xFFFFFFFF,
		strings.Repeat("\x00", 32): 0x190A55AD,
		strings.Repeat("\xff", 32): 0xFF6CAB0B,
		"The quick brown fox jumps over the lazy dog": 0x414FA339,
	} {
		if got := Sum([]byte(s)); got != want {
			t.Errorf("Sum of %q: %08X, not %08X", s, got, want)
		}
	}
}

// P2.1: Sum is made of Steps, in order, from all bits, and turned.
func TestSumIsSteps(t *testing.T) {
	for _, b := range bodies() {
		x := uint32(0xFFFFFFFF)
		for _, c := range b {
			x = Step(x, c)
		}
		if got := Sum(b); got != ^x || got != crc32.ChecksumIEEE(b) {
			t.Errorf("Sum of %q: %08X, Steps come to %08X", b, got, ^x)
		}
	}
	if Sum([]byte("ab")) == Sum([]byte("ba")) || Sum([]byte{0}) == Sum([]byte{0, 0}) {
		t.Error("the order, or noughts, do not count")
	}
}

// P2.2: the bytes, and the sum's lowest byte first.
func TestSealForms(t *testing.T) {
	for in, want := range map[string]string{
		"":          "\x00\x00\x00\x00",
		"123456789": "123456789\x26\x39\xf4\xcb",
		"\x00":      "\x00\x8d\xef\x02\xd2",
		"\xff":      "\xff\x00\x00\x00\xff",
		"a":         "a\x43\xbe\xb7\xe8",
	} {
		if got := Seal([]byte(in)); string(got) != want {
			t.Errorf("Seal of %q: %q, not %q", in, got, want)
		}
	}
	for _, b := range bodies() {
		want := binary.LittleEndian.AppendUint32(slices.Clone(b), Sum(b))
		if got := Seal(b); !bytes.Equal(got, want) {
			t.Errorf("Seal of %q: %q, not %q", b, got, want)
		}
	}
}

// P2.2: what is sealed is opened, no bytes and sealed bytes among it.
func TestSealedIsOpened(t *testing.T) {
	for _, b := range bodies() {
		once := Seal(b)
		if got, ok := Open(once); !ok || !bytes.Equal(got, b) {
			t.Errorf("Open of sealed %q: %q %t", b, got, ok)
		}
		if got, ok := Open(Seal(once)); !ok || !bytes.Equal(got, once) {
			t.Errorf("Open of twice sealed %q: %q %t", b, got, ok)
		}
	}
}

// refused fails the test if bytes are opened, or if anything stands beside the false.
func refused(t *testing.T, what string, b []byte) {
	t.Helper()
	if got, ok := Open(b); ok || len(got) != 0 {
		t.Errorf("%s: %q is opened: %q %t", what, b, got, ok)
	}
}

// P2.2, R6: of what Seal does not answer Open answers nothing, and false.
func TestOpenRefuses(t *testing.T) {
	for _, s := range []string{
		"", "\x00", "\x00\x00", "\x00\x00\x00", "\xff\xff\xff", "abc", // fewer than four
		"\x00\x00\x00\x01", "\x01\x00\x00\x00", "\xff\xff\xff\xff", "abcd", // another sum than that of no bytes
		"\x00\x00\x00\x00\x00", "\xff\xff\xff\xff\xff",
		"123456789", "123456789\xcb\xf4\x39\x26", "123456789\xd9\xc6\x0b\x34", // none, the highest first, not turned
		"\x26\x39\xf4\xcb123456789", "123456789\x26\x39\xf4\xcb\x00", "123456789\x26\x39\xf4", "23456789\x26\x39\xf4\xcb",
	} {
		refused(t, "not sealed", []byte(s))
	}
	refused(t, "nil", nil)
}

// P2.2: of the beginnings of sealed bytes, and of all two bytes ahead of one sum, Open takes what Seal answers, and no others.
func TestOpenTakesSealedAlone(t *testing.T) {
	for _, b := range bodies() {
		s := Seal(b)
		for n := range len(s) {
			got, ok := Open(s[:n])
			if is := n >= 4 && bytes.Equal(Seal(s[:n-4]), s[:n]); ok != is {
				t.Errorf("%q cut to %d: %q %t", s, n, got, ok)
			}
		}
	}
	for i := range 1 << 16 {
		b := []byte{byte(i), byte(i >> 8), 0x8d, 0xef, 0x02, 0xd2}
		if _, ok := Open(b); ok != bytes.Equal(Seal(b[:2]), b) {
			t.Fatalf("%q: %t", b, ok)
		}
	}
}

// P2.3: each byte, of the body and of the sum, made each other one.
func TestOneByteIsAnother(t *testing.T) {
	for _, b := range bodies() {
		s := Seal(b)
		for i := range s {
			for by := 1; by < 256; by++ {
				s[i] ^= byte(by)
				if got, ok := Open(s); ok || len(got) != 0 {
					t.Fatalf("byte %d of sealed %q turned by %d: %q %t", i, b, by, got, ok)
				}
				s[i] ^= byte(by)
			}
		}
	}
}

// turn turns those bits of s that are 1 in bits, its lowest at bit from of s, the lowest of a byte first.
func turn(s []byte, from int, bits uint32) {
	for i := range 32 {
		if bits>>i&1 == 1 {
			s[(from+i)/8] ^= 1 << ((from + i) % 8)
		}
	}
}

// bursts are bits to turn: all patterns of few bits, pairs at each distance, runs of each length, and many others.
func bursts() []uint32 {
	l := []uint32{0xEDB88320, 0xDB710641, 0x80000001, 0xFFFFFFFF, 0xAAAAAAAA, 0x55555555, 0x04C11DB7}
	for i := range 32 {
		l = append(l, 1<<i, 1|1<<i, 0x80000000|1<<i, uint32(1<<(i+1)-1))
	}
	for i := range 1 << 8 {
		l = append(l, uint32(i)|1, uint32(i)<<24|1, uint32(i)*0x01010101|1)
	}
	x := uint32(1)
	for range 200 {
		x = x*1664525 + 1013904223
		l = append(l, x|1)
	}
	return l
}

// P2.3: bits within 32 side by side, wherever they begin: within a byte, over the ends of bytes, from the body into the sum, in the sum alone.
func TestBitsSideBySideTurned(t *testing.T) {
	for _, b := range [][]byte{nil, {0}, []byte("ab"), []byte("123456789"), make([]byte, 7), bytes.Repeat([]byte{255}, 7)} {
		s := Seal(b)
		spoilt := make([]byte, len(s))
		for from := range 8*len(s) - 31 {
			for _, bits := range bursts() {
				copy(spoilt, s)
				turn(spoilt, from, bits)
				if got, ok := Open(spoilt); ok || len(got) != 0 {
					t.Fatalf("%08X turned from bit %d of sealed %q on: %q %t", bits, from, b, got, ok)
				}
			}
		}
	}
}

// overwrite spoils a list, and all the room behind its end.
func overwrite(l []byte) {
	l = l[:cap(l)]
	for i := range l {
		l[i] = '#'
	}
}

// R3, R7: what is handed in is not changed, nor the room behind its end; answers are new memory.
func TestNewMemory(t *testing.T) {
	room := append(Seal([]byte("ab")), "and what is behind"...)
	whole := string(room)
	opened, ok := Open(room[:6])
	none, _ := Open(room[:5])
	for i, l := range [][]byte{opened, none, Seal(room[:6]), Seal(room[:0]), Seal(room)} {
		if string(room) != whole || !ok {
			t.Fatalf("changed by a call: %q", room)
		}
		overwrite(l)
		if string(room) != whole {
			t.Fatalf("answer %d shares memory with what was handed in", i)
		}
	}
}

func TestOpenedIsApartFromSealed(t *testing.T) {
	s := Seal([]byte("abc"))
	b, _ := Open(s)
	overwrite(s)
	if string(b) != "abc" {
		t.Errorf("what was opened became %q", b)
	}
}

// R3: nil and empty lists are the same; R4: the same call answers the same.
func TestNilIsEmpty(t *testing.T) {
	if Sum(nil) != Sum([]byte{}) || !bytes.Equal(Seal(nil), Seal([]byte{})) {
		t.Error("nil and empty are told apart")
	}
	if b, ok := Open(Seal(nil)); !ok || len(b) != 0 {
		t.Errorf("no bytes, sealed: %q %t", b, ok)
	}
}

// A great body is summed too: the document's bound is 2^24 bytes.
func TestGreat(t *testing.T) {
	b := bytes.Repeat([]byte("plexus!\x00"), 1<<18)
	if Sum(b) != crc32.ChecksumIEEE(b) {
		t.Error("the sum of a great body")
	}
	s := Seal(b)
	if got, ok := Open(s); !ok || !bytes.Equal(got, b) {
		t.Error("a great body is not opened")
	}
	s[len(s)/2] ^= 1
	if got, ok := Open(s); ok || len(got) != 0 {
		t.Error("a great body with one bit turned is opened")
	}
}
