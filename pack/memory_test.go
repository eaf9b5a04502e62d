package pack_test

import (
	"bytes"
	"cmp"
	"reflect"
	"slices"
	"testing"

	"plexus/api"
	"plexus/pack"
)

// emptied answers a value that is the same and shares no list with it, whose empty lists are nil, or are not, and whose others have room behind their ends, in which something stands.
func emptied(v reflect.Value, toNil bool) reflect.Value {
	c := reflect.New(v.Type()).Elem()
	c.Set(v)
	switch v.Kind() {
	case reflect.Slice:
		if v.Len() == 0 && toNil {
			return reflect.Zero(v.Type())
		}
		c = reflect.MakeSlice(v.Type(), v.Len(), v.Len()+2)
		for i := range v.Len() {
			c.Index(i).Set(emptied(v.Index(i), toNil))
		}
		scribble(c.Slice(0, c.Cap()).Index(v.Len()))
	case reflect.Array:
		for i := range v.Len() {
			c.Index(i).Set(emptied(v.Index(i), toNil))
		}
	case reflect.Struct:
		for i := range v.NumField() {
			c.Field(i).Set(emptied(v.Field(i), toNil))
		}
	}
	return c
}

// scribble fills a value with something, but for its lists.
func scribble(v reflect.Value) {
	switch v.Kind() {
	case reflect.Int:
		v.SetInt(77)
	case reflect.String:
		v.SetString("behind")
	case reflect.Array:
		for i := range v.Len() {
			scribble(v.Index(i))
		}
	case reflect.Struct:
		for i := range v.NumField() {
			scribble(v.Field(i))
		}
	}
}

// withRoom answers all that a value holds, with what stands in the room behind the ends of its lists.
func withRoom(v reflect.Value) []byte {
	var b []byte
	switch v.Kind() {
	case reflect.Slice:
		b = append(number(v.Len()), number(v.Cap())...)
		v = v.Slice(0, v.Cap())
		fallthrough
	case reflect.Array:
		for i := range v.Len() {
			b = append(b, withRoom(v.Index(i))...)
		}
	case reflect.Struct:
		for i := range v.NumField() {
			b = append(b, withRoom(v.Field(i))...)
		}
	default:
		return plainOf(v)
	}
	return b
}

// R3, R7: Put and CheckBase change nothing of what they are handed, nor what stands behind the ends of its lists; nil and empty lists are the same to them.
func TestArgumentsStay(t *testing.T) {
	eachKind(t, func(t *testing.T, k kind) {
		for _, x := range k.values {
			for _, toNil := range []bool{true, false} {
				c := emptied(reflect.ValueOf(x), toNil)
				ahead := withRoom(c)
				room := []byte("abcdefghijklmnopqrstuvwxyz")
				got := k.put(room[:2], c.Interface())
				if kept, ok := c.Interface().(api.Kept); ok && !pack.CheckBase(kept.Base) {
					t.Errorf("this one may not be: %s", told(kept))
				}
				if !bytes.Equal(withRoom(c), ahead) || string(room) != "abcdefghijklmnopqrstuvwxyz" {
					t.Fatalf("Put changed %s, or %q", told(x), room)
				}
				if !bytes.Equal(got, append([]byte("ab"), plain(x)...)) {
					t.Errorf("%s: %v", k.name, head(got))
				}
				overwrite(got)
				if !bytes.Equal(withRoom(c), ahead) || string(room) != "abcdefghijklmnopqrstuvwxyz" {
					t.Fatalf("Put shares memory of %s, or %q", told(x), room)
				}
			}
		}
	})
}

// R3: what may not be stays as it was, too.
func TestWrongArgumentsStay(t *testing.T) {
	wrong := [][]any{wrongVecs(), wrongTxs(), wrongStamps(), wrongStores(), wrongKepts()}
	for i, k := range kindsOfAll() {
		for _, x := range wrong[i] {
			c := emptied(reflect.ValueOf(x), false)
			ahead := withRoom(c)
			room := []byte("abcdefghijklmnopqrstuvwxyz")
			if k.put(room[:2], c.Interface()); !bytes.Equal(withRoom(c), ahead) || string(room) != "abcdefghijklmnopqrstuvwxyz" {
				t.Fatalf("Put changed %s, or %q", told(x), room)
			}
		}
	}
}

// overwrite spoils bytes, and all the room behind their end.
func overwrite(b []byte) {
	b = b[:cap(b)]
	for i := range b {
		b[i] = '#'
	}
}

// stretch is memory that a list has, its room too.
type stretch struct {
	from uintptr
	to   uintptr
}

// stretches answers the memory of all lists of a value.
func stretches(v reflect.Value) []stretch {
	var l []stretch
	switch v.Kind() {
	case reflect.Slice:
		if size := uintptr(v.Cap()) * v.Type().Elem().Size(); size > 0 {
			l = append(l, stretch{v.Pointer(), v.Pointer() + size})
		}
		fallthrough
	case reflect.Array:
		for i := range v.Len() {
			l = append(l, stretches(v.Index(i))...)
		}
	case reflect.Struct:
		for i := range v.NumField() {
			l = append(l, stretches(v.Field(i))...)
		}
	}
	return l
}

// R3: Get changes nothing of the bytes that it is handed, nor what stands behind their end; what it answers is new memory: it stays as it is when these bytes, or what was behind, become others, and none of its lists shares memory with another one.
func TestAnswersAreNew(t *testing.T) {
	eachKind(t, func(t *testing.T, k kind) {
		for _, x := range k.values {
			room := append(append(plain(x), "behind"...), "beyond"...)
			b := room[:len(room)-len("beyond")]
			ahead := bytes.Clone(room)
			got, rest, err := k.get(b)
			if err != isOK || !bytes.Equal(room, ahead) {
				t.Fatalf("Get changed what it was handed, or is %d", err)
			}
			l := append(stretches(reflect.ValueOf(got)), stretches(reflect.ValueOf(rest))...)
			l = append(l, stretches(reflect.ValueOf(b))...)
			slices.SortFunc(l, func(a stretch, b stretch) int { return cmp.Compare(a.from, b.from) })
			for i := 1; i < len(l); i++ {
				if l[i].from < l[i-1].to {
					t.Fatalf("two lists share memory: %s", told(got))
				}
			}
			overwrite(rest)
			if !bytes.Equal(room, ahead) || !same(got, x) {
				t.Fatalf("what is behind shares memory: %s", told(got))
			}
			overwrite(b)
			if !same(got, x) {
				t.Fatalf("what was got shares memory: %s", told(got))
			}
		}
	})
}

// R3: bytes of which Get refuses something stay as they were.
func TestRefusedBytesStay(t *testing.T) {
	eachKind(t, func(t *testing.T, k kind) {
		b := plain(k.values[len(k.values)-1])
		for n := range len(b) {
			c := append(bytes.Clone(b[:n]), b[n:]...)
			c[n] ^= 255
			ahead := bytes.Clone(c)
			k.get(c[:n])
			k.get(c)
			if !bytes.Equal(c, ahead) {
				t.Fatalf("Get changed what it was handed, at %d", n)
			}
		}
	})
}
