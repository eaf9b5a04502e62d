package pack_test

import (
	"bytes"
	"math/rand"
	"slices"
	"testing"

	"plexus/api"
	"plexus/pack"
)

// askOneForm asks whether Get answers what the chapter's words have, and, where something is got, whether that is put as the bytes that it was got of.
func askOneForm(t *testing.T, k kind, b []byte) api.Errno {
	t.Helper()
	err := askGet(t, k, b)
	x, rest, e := k.get(b)
	if put := k.put(nil, x); e == isOK && !bytes.Equal(append(put, rest...), b) {
		t.Fatalf("%s is got of %v, and put as %v", k.name, head(b), head(put))
	}
	return err
}

// P21.3: bytes of which one is another one: what is got of them, if anything, is put as just these. Each byte of each value, made others.
func TestEachByte(t *testing.T) {
	eachKind(t, func(t *testing.T, k kind) {
		met := map[api.Errno]int{}
		left := 2500
		for _, x := range k.values {
			b := plain(x)
			if len(b) > left {
				continue
			}
			left -= len(b)
			for at := range b {
				for _, by := range []byte{1, 2, 4, 6, 128, 255} {
					c := bytes.Clone(b)
					c[at] ^= by
					met[askOneForm(t, k, c)]++
				}
			}
		}
		for _, err := range []api.Errno{isOK, isForm, isShort} {
			if met[err] < 20 {
				t.Errorf("%s: the error %d came %d times", k.name, err, met[err])
			}
		}
	})
}

// spoilt answers bytes to which a few things were done by chance: a byte is another one, is gone, or is new, some are cut out, or are there twice, or the rest is cut away.
func spoilt(r *rand.Rand, b []byte) []byte {
	b = bytes.Clone(b)
	for range 1 + r.Intn(3) {
		at := r.Intn(len(b) + 1)
		end := min(at+r.Intn(8), len(b))
		switch r.Intn(6) {
		case 0:
			b = slices.Insert(b, at, byte(r.Intn(256)))
		case 1:
			b = slices.Delete(b, at, end)
		case 2:
			b = slices.Insert(b, at, b[at:end]...)
		case 3:
			b = b[:at]
		default:
			if at < len(b) {
				b[at] = byte(r.Intn(14))
			}
		}
	}
	return b
}

// P21.3: bytes to which several things were done, and bytes by chance.
func TestAnyBytes(t *testing.T) {
	eachKind(t, func(t *testing.T, k kind) {
		r := rand.New(rand.NewSource(7))
		got := 0
		for range 6000 {
			b := plain(k.values[r.Intn(len(k.values))])
			if len(b) > 2000 {
				continue
			}
			if askOneForm(t, k, spoilt(r, b)) == isOK {
				got++
			}
			any := make([]byte, r.Intn(60))
			for i := range any {
				any[i] = byte(r.Intn(5))
				if r.Intn(10) == 0 {
					any[i] = byte(r.Intn(256))
				}
			}
			askOneForm(t, k, any)
		}
		if got < 50 {
			t.Errorf("%s: %d were got", k.name, got)
		}
	})
}

// P21.3: all short bytes of few that there may be, as a stamp, and as a store: each is what the chapter's words have.
func TestAllShortBytes(t *testing.T) {
	each := kindsOfAll()
	var try func(b []byte, left int)
	try = func(b []byte, left int) {
		askOneForm(t, each[2], b)
		askOneForm(t, each[3], b)
		if left > 0 {
			for _, c := range []byte{0, 1, 2, 4, 6, 128} {
				try(append(slices.Clip(b), c), left-1)
			}
		}
	}
	try(nil, 6)
}

// P21.3: unlike values have unlike bytes, and none begins another one's.
func TestUnlikeBytes(t *testing.T) {
	eachKind(t, func(t *testing.T, k kind) {
		var put [][]byte
		for _, x := range k.values {
			put = append(put, k.put(nil, x))
		}
		for i, a := range put {
			for j, b := range put {
				if like := same(k.values[i], k.values[j]); like != bytes.Equal(a, b) {
					t.Errorf("the same: %t, the same bytes: %t, of %s and %s", like, !like, told(k.values[i]), told(k.values[j]))
				}
				if len(a) < len(b) && bytes.HasPrefix(b, a) {
					t.Errorf("%s begins as %s", told(k.values[j]), told(k.values[i]))
				}
			}
		}
	})
}

// P21.3: what is kept of peers to whom transactions of every kind came, some pruned and folded, is got as it was put; its store, its log and its stamp alone, too.
func TestLives(t *testing.T) {
	each := kindsOfAll()
	pruned, objects := 0, 0
	for seed := range int64(150) {
		k := lived(seed, 1+int(seed)%40)
		askPut(t, each[4], []byte{byte(seed)}, k)
		askGets(t, each[4], append(plain(k), 1, 2), k, []byte{1, 2}, isOK)
		askPut(t, each[3], nil, k.Base.Store)
		askGets(t, each[3], plain(k.Base.Store), k.Base.Store, nil, isOK)
		for _, x := range k.Log {
			askPut(t, each[1], nil, x)
			askGets(t, each[1], append(plain(x), plain(x)...), x, plain(x), isOK)
		}
		if (k.Pruned != api.Vec{}) {
			pruned++
		}
		objects += len(k.Base.Store.Objects)
	}
	for _, s := range forked(rand.New(rand.NewSource(9)), 3000) {
		askPut(t, each[2], nil, s)
		askGets(t, each[2], plain(s), s, nil, isOK)
	}
	if pruned < 50 || objects < 500 {
		t.Errorf("%d were pruned, and had %d objects", pruned, objects)
	}
}

// P21.3, R8: the same call answers the same again, whatever came between.
func TestAgain(t *testing.T) {
	eachKind(t, func(t *testing.T, k kind) {
		for _, x := range k.values {
			b := k.put(nil, x)
			k.get(b[:len(b)/2])
			k.put(nil, k.values[0])
			if c := k.put(nil, x); !bytes.Equal(b, c) {
				t.Errorf("%s is put as %v, and as %v", k.name, head(b), head(c))
			}
			askGets(t, k, b, x, nil, isOK)
			askGets(t, k, b, x, nil, isOK)
		}
	})
	if pack.CheckBase(sound()) != pack.CheckBase(sound()) {
		t.Error("a base may be once, and not again")
	}
}
