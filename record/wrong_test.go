package record_test

import (
	"bytes"
	"math/rand"
	"slices"
	"testing"

	"plexus/api"
	"plexus/record"
)

// P23.1, R2: a body that is too long is refused, whatever it would stand behind: nothing then, and its Size is 0.
func TestTooLong(t *testing.T) {
	for _, n := range []int{bodyMost + 1, bodyMost + 2, bodyMost + 8, 1<<16 - 1, 1 << 16, 1<<16 + 1, 200000, 1 << 24} {
		body := make([]byte, n)
		for _, b := range [][]byte{nil, {}, {1}, written("a"), make([]byte, 100000)} {
			askPut(t, b, body, nil, api.ErrArg)
		}
		askSize(t, body, 0)
	}
	// One byte less is not.
	body := []byte(long(bodyMost))
	askPut(t, nil, body, written(string(body)), api.OK)
	askSize(t, body, bodyMost+least)
}

// P23.1, R7: a body's length alone counts, not the room behind its end.
func TestRoomIsNobodys(t *testing.T) {
	body := make([]byte, bodyMost, 3*bodyMost)
	askSize(t, body, bodyMost+least)
	if got, err := record.Put(nil, body); err != api.OK || len(got) != bodyMost+least {
		t.Errorf("Put of a body with room = %d bytes, %d", len(got), err)
	}
	askSize(t, body[:0], least)
	// Records in the room behind the bytes are none, nor is one that goes on there.
	b := written("a", "b", "c")
	for n := range len(b) + 1 {
		askScan(t, b[:n], []string{"a", "b", "c"}[:n/9], n/9*9)
	}
}

// R1, R3: nil and empty lists are the same.
func TestNothing(t *testing.T) {
	for _, b := range [][]byte{nil, {}} {
		for _, body := range [][]byte{nil, {}} {
			askPut(t, b, body, make([]byte, least), api.OK)
			askSize(t, body, least)
		}
		askScan(t, b, nil, 0)
	}
}

// R1: any bytes are scanned as the document says: ones by chance, of few values and of many, and the same one again and again.
func TestAnyBytes(t *testing.T) {
	r := rand.New(rand.NewSource(234))
	for i := range 3000 {
		b := make([]byte, r.Intn(120))
		r.Read(b)
		if i%2 == 0 {
			for j := range b {
				b[j] &= 1 << (j % 3) >> (j % 2)
			}
		}
		askTold(t, b)
	}
	for x := range 256 {
		for n := range 40 {
			askTold(t, bytes.Repeat([]byte{byte(x)}, n))
		}
	}
	askTold(t, make([]byte, 1<<20+5))
	askTold(t, bytes.Repeat([]byte{0, 0, 0xea, 0x60}, 50000))
	askTold(t, bytes.Repeat(written("abc"), 20000))
}

// roomy answers the same bytes with room behind their end, in which stand others.
func roomy(b []byte, room int) []byte {
	return slices.Concat(b, bytes.Repeat([]byte{0xAA}, room))[:len(b)]
}

// R3: Put leaves what it is given as it was, what stands in the room behind its end, too.
func TestPutLeavesArguments(t *testing.T) {
	for _, room := range []int{0, 1, 8, 12, 100} {
		for _, body := range []string{"", "abcd", long(1000)} {
			for _, ahead := range []string{"", "ahead", string(written("a"))} {
				b, x := roomy([]byte(ahead), room), roomy([]byte(body), room)
				wasB, wasX := string(b[:cap(b)]), string(x[:cap(x)])
				got, err := record.Put(b, x)
				if want := ahead + string(written(body)); err != api.OK || string(got) != want {
					t.Errorf("Put behind %.20q of %.20q: %d bytes, %d", ahead, body, len(got), err)
				}
				record.Size(x)
				if string(b[:cap(b)]) != wasB || string(x[:cap(x)]) != wasX {
					t.Errorf("Put behind %.20q of %.20q with room for %d: an argument is not as it was", ahead, body, room)
				}
			}
		}
	}
	long := roomy(make([]byte, bodyMost+1), 20)
	b := roomy([]byte("ahead"), 20)
	record.Put(b, long)
	if string(b[:cap(b)]) != string(roomy([]byte("ahead"), 20)[:cap(b)]) {
		t.Error("a Put that is refused: an argument is not as it was")
	}
}

// R3: bytes and body may be the same memory, or one may stand in the other one's room.
func TestPutOfSharedMemory(t *testing.T) {
	all := []byte("abcdefghijklmnopqrstuvwxyz")
	for i := range len(all) + 1 {
		for j := range len(all) + 1 {
			body := all[min(i, j):max(i, j)]
			got, err := record.Put(all[:i], body)
			if want := string(all[:i]) + string(written(string(body))); err != api.OK || string(got) != want {
				t.Errorf("Put(%q, %q) = %q, %d, want %q", all[:i], body, got, err, want)
			}
		}
	}
	if string(all) != "abcdefghijklmnopqrstuvwxyz" {
		t.Errorf("the bytes are %q now", all)
	}
}

// R3: what Put answers is the caller's own: two that stand behind the same bytes know nothing of each other.
func TestPutAnswersNewMemory(t *testing.T) {
	b, body := roomy(written("a"), 50), roomy([]byte("bc"), 50)
	first, _ := record.Put(b, body)
	second, _ := record.Put(b, []byte("de"))
	third, _ := record.Put(first, []byte("fg"))
	fourth, _ := record.Put(first, []byte("hi"))
	for i, got := range [][]byte{first, second, third, fourth} {
		want := written([][]string{{"a", "bc"}, {"a", "de"}, {"a", "bc", "fg"}, {"a", "bc", "hi"}}[i]...)
		if !bytes.Equal(got, want) {
			t.Errorf("the answer %d is %q, want %q", i, got, want)
		}
		spoil(got)
	}
	if !bytes.Equal(b, written("a")) || string(body) != "bc" {
		t.Errorf("the arguments are %q and %q now", b, body)
	}
	b, _ = record.Put(nil, body)
	spoil(body)
	if !bytes.Equal(b, written("bc")) {
		t.Errorf("the answer is %q now", b)
	}
}

// spoil turns all bytes, those in the room behind the end, too.
func spoil(b []byte) {
	b = b[:cap(b)]
	for i := range b {
		b[i] ^= 0xff
	}
}

// R3: what Scan answers is new memory: neither the bytes nor the other bodies change with one.
func TestScanAnswersNewMemory(t *testing.T) {
	l := []string{"a", "", "bcde", long(100), "f", "\x00", "ghijk"}
	b := roomy(written(l...), 30)
	was := string(b[:cap(b)])
	bodies, _ := record.Scan(b)
	for i := range bodies {
		spoil(bodies[i])
		bodies[i] = append(bodies[i], "more than there is"...)
		if got, _ := record.Scan(b); string(b[:cap(b)]) != was || !slices.Equal(texts(got), l) {
			t.Fatalf("the bytes changed with body %d", i)
		}
		if got := texts(bodies); !slices.Equal(got[i+1:], l[i+1:]) {
			t.Fatalf("other bodies changed with body %d: %.40q", i, got)
		}
	}
	bodies, _ = record.Scan(b)
	spoil(b)
	if got := texts(bodies); !slices.Equal(got, l) {
		t.Errorf("the bodies changed with the bytes: %.40q", got)
	}
}

// R3, the chapter's Ways: nothing is appended to a body that was scanned: what is appended makes a new one each time, and changes none.
func TestAppendToBodies(t *testing.T) {
	l := []string{"", "a", "bcde", "fghijklm", long(33), long(1000), ""}
	bodies, _ := record.Scan(written(l...))
	var grown [][]byte
	for _, c := range []byte{'x', 'y', 'z'} {
		for _, body := range bodies {
			grown = append(grown, append(body, c))
		}
	}
	for i, got := range texts(grown) {
		if want := l[i%len(l)] + "xyz"[i/len(l):][:1]; got != want {
			t.Errorf("body %d with one more byte is %.40q now, want %.40q", i%len(l), got, want)
		}
	}
	if got := texts(bodies); !slices.Equal(got, l) {
		t.Errorf("the bodies are %.40q now, want %.40q", got, l)
	}
}
