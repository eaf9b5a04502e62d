package num

import (
	"bytes"
	"math"
	"slices"
	"strconv"
	"strings"
	"testing"

	"plexus/api"
)

const least, greatest = math.MinInt64, math.MaxInt64

// nineFull is what stands ahead of the tenth byte of the least number.
var nineFull = bytes.Repeat([]byte{255}, 9)

// forms are numbers, and the bytes that the chapter's words ask for.
var forms = []struct {
	n    int
	want []byte
}{
	{0, []byte{0}},
	{-1, []byte{1}},
	{1, []byte{2}},
	{-2, []byte{3}},
	{3, []byte{6}},
	{63, []byte{126}},
	{-64, []byte{127}},
	{64, []byte{128, 1}},
	{-65, []byte{129, 1}},
	{100, []byte{200, 1}},
	{8191, []byte{254, 127}},
	{-8192, []byte{255, 127}},
	{8192, []byte{128, 128, 1}},
	{-8193, []byte{129, 128, 1}},
	{1 << 62, append(bytes.Repeat([]byte{128}, 9), 1)},
	{greatest, append([]byte{254}, append(slices.Clone(nineFull[1:]), 1)...)},
	{least, append(slices.Clone(nineFull), 1)},
}

// someNumbers are numbers at and beside every place where the bytes or the digits grow
func someNumbers() []int {
	l := []int{0, 1, -1, 10, -10, 99, 12345, -12345, least, least + 1, greatest, greatest - 1}
	for i := range 63 {
		p := 1 << i
		l = append(l, p-1, p, p+1, -p-1, -p, -p+1)
	}
	for p := 1; p <= greatest/10; p *= 10 {
		l = append(l, 10*p-1, 10*p, -10*p+1, -10*p)
	}
	slices.Sort(l)
	return slices.Compact(l)
}

// P1.1: ordinary numbers, and the edges of each count of bytes.
func TestPutForms(t *testing.T) {
	for _, f := range forms {
		if got := Put(nil, f.n); !bytes.Equal(got, f.want) {
			t.Errorf("Put of %d: %v, not %v", f.n, got, f.want)
		}
		got := Put([]byte("ab"), f.n)
		if !bytes.Equal(got, append([]byte("ab"), f.want...)) {
			t.Errorf("Put of %d behind ab: %v", f.n, got)
		}
	}
}

func TestGetForms(t *testing.T) {
	for _, f := range forms {
		for _, behind := range []string{"", "\x00", "\xff\xff", "abc"} {
			n, rest, err := Get(append(slices.Clone(f.want), behind...))
			if n != f.n || string(rest) != behind || err != api.OK {
				t.Errorf("Get of %v and %q: %d %q %d", f.want, behind, n, rest, err)
			}
		}
	}
}

// P1.1: a number is as many bytes as its 64 bits ask for, and no more.
func TestPutIsShort(t *testing.T) {
	for _, n := range someNumbers() {
		b := Put(nil, n)
		if last := b[len(b)-1]; last == 0 && len(b) > 1 || last >= 128 {
			t.Errorf("Put of %d ends with %d", n, last)
		}
		for _, c := range b[:len(b)-1] {
			if c < 128 {
				t.Errorf("Put of %d: %v", n, b)
			}
		}
	}
}

// P1.1 and R2: what is wrong; what does not end is short first.
func TestGetRefuses(t *testing.T) {
	on := func(k int, tail ...byte) []byte { return append(bytes.Repeat([]byte{128}, k), tail...) }
	for _, c := range []struct {
		name string
		b    []byte
		want api.Errno
	}{
		{"nil", nil, api.ErrShort},
		{"empty", []byte{}, api.ErrShort},
		{"one that goes on", []byte{128}, api.ErrShort},
		{"two that go on", []byte{129, 255}, api.ErrShort},
		{"nine that go on", on(9), api.ErrShort},
		{"ten that go on", on(10), api.ErrShort},
		{"ten full ones", bytes.Repeat([]byte{255}, 10), api.ErrShort},
		{"many that go on", on(1000), api.ErrShort},
		{"tenth is 2", on(9, 2), api.ErrForm},
		{"tenth is 3 behind full ones", append(slices.Clone(nineFull), 3), api.ErrForm},
		{"tenth is 127", on(9, 127), api.ErrForm},
		{"tenth is 128, then 1", on(10, 1), api.ErrForm},
		{"tenth is 128, then 0", on(10, 0), api.ErrForm},
		{"tenth is 129, then 1", on(9, 129, 1), api.ErrForm},
		{"many, then an end", on(1000, 1), api.ErrForm},
		{"nought in two bytes", on(1, 0), api.ErrForm},
		{"one in two bytes", []byte{130, 0}, api.ErrForm},
		{"three bytes, two do", []byte{128, 129, 0}, api.ErrForm},
		{"tenth is 0", on(9, 0), api.ErrForm},
		{"a needless byte, more behind", []byte{128, 0, 6}, api.ErrForm},
	} {
		if n, rest, err := Get(c.b); n != 0 || len(rest) != 0 || err != c.want {
			t.Errorf("%s: %d %v %d, not %d", c.name, n, rest, err, c.want)
		}
		if s, rest, err := GetText(c.b); s != "" || len(rest) != 0 || err != c.want {
			t.Errorf("%s as a text: %q %v %d, not %d", c.name, s, rest, err, c.want)
		}
	}
}

// P1.1: whatever Get takes is what Put makes: each number has one form. All of one and two bytes.
func TestOneFormEach(t *testing.T) {
	for i := range 1 << 16 {
		b := []byte{byte(i), byte(i >> 8)}
		n, rest, err := Get(b)
		if err == api.OK && !bytes.Equal(append(Put(nil, n), rest...), b) {
			t.Fatalf("%v is taken for %d, which is %v", b, n, Put(nil, n))
		}
		if wrong := b[0] >= 128 && (b[1] == 0 || b[1] >= 128); wrong != (err != api.OK) {
			t.Fatalf("%v: %d", b, err)
		}
	}
}

// P1.2: ordinary texts, and the edges.
func TestPutText(t *testing.T) {
	for _, c := range []struct {
		before, text, want string
	}{
		{"", "", "\x00"},
		{"", "a", "\x02a"},
		{"x", "ab", "x\x04ab"},
		{"", "\x00\xff", "\x04\x00\xff"},
		{"", "é", "\x04\xc3\xa9"},
		{"", strings.Repeat("a", 63), "\x7e" + strings.Repeat("a", 63)},
		{"", strings.Repeat("a", 64), "\x80\x01" + strings.Repeat("a", 64)},
		{"", strings.Repeat("a", 65), "\x82\x01" + strings.Repeat("a", 65)},
	} {
		if got := PutText([]byte(c.before), c.text); string(got) != c.want {
			t.Errorf("PutText of %q: %q, not %q", c.text, got, c.want)
		}
	}
}

func TestGetText(t *testing.T) {
	long := strings.Repeat("x", api.MaxText)
	for _, c := range []struct {
		name, in, text, rest string
		err                  api.Errno
	}{
		{"empty text", "\x00", "", "", api.OK},
		{"empty text, more behind", "\x00ab", "", "ab", api.OK},
		{"a text", "\x04abc", "ab", "c", api.OK},
		{"a text to the end", "\x04ab", "ab", "", api.OK},
		{"no UTF-8", "\x04\xff\x00\xfe", "\xff\x00", "\xfe", api.OK},
		{"MaxText", "\x80\x01" + long + "yz", long, "yz", api.OK},
		{"one more", "\x82\x01" + long + "x", "", "", api.ErrForm},
		{"one more, and not there", "\x82\x01", "", "", api.ErrForm},
		{"the greatest", string(Put(nil, greatest)), "", "", api.ErrForm},
		{"below 0", "\x01abc", "", "", api.ErrForm},
		{"the least", string(Put(nil, least)) + "abc", "", "", api.ErrForm},
		{"no byte of one", "\x02", "", "", api.ErrShort},
		{"one of two", "\x04a", "", "", api.ErrShort},
		{"63 of 64", "\x80\x01" + long[1:], "", "", api.ErrShort},
		{"a length that does not end", "\x80", "", "", api.ErrShort},
		{"a length with a needless byte", "\x82\x00a", "", "", api.ErrForm},
	} {
		s, rest, err := GetText([]byte(c.in))
		if s != c.text || string(rest) != c.rest || err != c.err {
			t.Errorf("%s: %q %q %d", c.name, s, rest, err)
		}
	}
}

// P1.3: both ways, at the edges too.
func TestDecAndParse(t *testing.T) {
	for n, want := range map[int]string{
		0: "0", 7: "7", -7: "-7", 10: "10", -10: "-10", 1234567890: "1234567890", 100: "100", 99: "99",
		greatest: "9223372036854775807",
		least:    "-9223372036854775808",
	} {
		if got := Dec(n); got != want {
			t.Errorf("Dec of %s: %s", want, got)
		}
	}
	for _, n := range someNumbers() {
		if Dec(n) != strconv.Itoa(n) {
			t.Errorf("Dec of %d: %s", n, Dec(n))
		}
		if m, ok := Parse(strconv.Itoa(n)); m != n || !ok {
			t.Errorf("Parse of %d: %d %t", n, m, ok)
		}
	}
}

// P1.3 and R7: texts that are no number's Dec.
func TestParseRefuses(t *testing.T) {
	for _, s := range []string{
		"", "-", "--1", "+1", "+", "-0", "00", "007", "-07", "01", " 1", "1 ", "1\n", "1-", "1-1", "-+1",
		"a", "1a", "a1", "0x1", "1_0", "1.0", "1e3", "/", ":", "\x00", "1\x00", "\xff", "١", "１",
		"9223372036854775808", "-9223372036854775809", "9999999999999999999", "-9999999999999999999",
		"18446744073709551615", "18446744073709551616", "18446744073709551617", "-18446744073709551615",
		"36893488147419103232", "00000000000000000001", "-00000000000000000001", "10000000000000000000",
		strings.Repeat("9", 20), strings.Repeat("0", 1000), strings.Repeat("1", 1<<16),
	} {
		if n, ok := Parse(s); n != 0 || ok {
			t.Errorf("Parse of %.40q: %d %t", s, n, ok)
		}
	}
}

// P1.3: of all short texts Parse takes those that strconv makes, and no others.
func TestParseShortTexts(t *testing.T) {
	signs := []byte("-+ 0123456789/:")
	var try func(s string, left int)
	try = func(s string, left int) {
		want, e := strconv.Atoi(s)
		is := e == nil && strconv.Itoa(want) == s
		if n, ok := Parse(s); ok != is || is && n != want || !is && n != 0 {
			t.Errorf("Parse of %q: %d %t", s, n, ok)
		}
		if left > 0 {
			for _, c := range signs {
				try(s+string(rune(c)), left-1)
			}
		}
	}
	try("", 4)
}

// P1.4: what is put is got, whatever is behind; unlike numbers are unlike as bytes, and none begins another one.
func TestWhatIsPutIsGot(t *testing.T) {
	l := someNumbers()
	seen := map[string]int{}
	for i, n := range l {
		b := Put(nil, n)
		if m, ok := seen[string(b)]; ok {
			t.Errorf("%d and %d are both %v", m, n, b)
		}
		seen[string(b)] = n
		behind := Put([]byte{0, 128, 255}, l[len(l)-1-i])
		m, rest, err := Get(append(b, behind...))
		if m != n || !bytes.Equal(rest, behind) || err != api.OK {
			t.Errorf("%d came back as %d, with %v, %d", n, m, rest, err)
		}
	}
	for a := range seen {
		for b := range seen {
			if a != b && strings.HasPrefix(a, b) {
				t.Errorf("%d begins with %d", seen[a], seen[b])
			}
		}
	}
}

func TestTextsThatArePutAreGot(t *testing.T) {
	for k := range api.MaxText + 1 {
		text := strings.Repeat("\x80b", k)[:k]
		for _, behind := range []string{"", "\x00", "\xff", strings.Repeat("z", 70)} {
			s, rest, err := GetText(append(PutText(nil, text), behind...))
			if s != text || string(rest) != behind || err != api.OK {
				t.Errorf("%q and %q: %q %q %d", text, behind, s, rest, err)
			}
		}
	}
}

// P1.4: several behind one another, all kinds.
func TestSeveral(t *testing.T) {
	b := PutText(Put(PutText(Put(nil, least), "key"), greatest), "")
	n, b, e1 := Get(b)
	s, b, e2 := GetText(b)
	m, b, e3 := Get(b)
	u, b, e4 := GetText(b)
	if n != least || s != "key" || m != greatest || u != "" || len(b) != 0 || e1+e2+e3+e4 != api.OK {
		t.Errorf("%d %q %d %q %v", n, s, m, u, b)
	}
}

// overwrite spoils a list, and all the room behind its end.
func overwrite(l []byte) {
	l = l[:cap(l)]
	for i := range l {
		l[i] = '#'
	}
}

// R3, R7: what is handed in is not changed, nor the room behind its end; answers are new memory.
func TestNewMemory(t *testing.T) {
	room := []byte("\x02kabcdefghijklmnopqrstuvwxyz")
	whole := string(room)
	_, rest, _ := Get(room)
	_, behind, _ := GetText(room)
	for i, l := range [][]byte{
		rest, behind, Put(room[:2], 300), PutText(room[:2], "text"), Put(room[:0], 1), PutText(room[:0], ""),
	} {
		if string(room) != whole {
			t.Fatalf("changed by a call: %q", room)
		}
		overwrite(l)
		if string(room) != whole {
			t.Fatalf("answer %d shares memory with what was handed in", i)
		}
	}
}

func TestTextIsApartFromBytes(t *testing.T) {
	in := append(PutText(nil, "abc"), "def"...)
	s, rest, _ := GetText(in)
	overwrite(rest)
	overwrite(in)
	if s != "abc" {
		t.Errorf("the text became %q", s)
	}
}

// R3: nil and empty lists are the same.
func TestNilIsEmpty(t *testing.T) {
	for _, n := range someNumbers() {
		if !bytes.Equal(Put(nil, n), Put([]byte{}, n)) {
			t.Errorf("%d is told in two ways", n)
		}
	}
	if !bytes.Equal(PutText(nil, "ab"), PutText([]byte{}, "ab")) {
		t.Error("a text is told in two ways")
	}
}
