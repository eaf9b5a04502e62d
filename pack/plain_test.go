package pack_test

import (
	"bytes"
	"encoding/binary"
	"fmt"
	"reflect"
	"testing"

	"plexus/api"
	"plexus/ops"
	"plexus/pack"
	"plexus/stamp"
	"plexus/store"
	"plexus/vec"
)

// Limits, as the document has them.
const (
	listMost  = 4096
	textMost  = 64
	depthMost = 16
	seqMost   = 1 << 20
	timeMost  = 1 << 40
	bootMost  = 1 << 20
	segMost   = 1 << 20
	countMost = 1 << 30
	peersMost = 12
)

// Errors, as the document numbers them.
const (
	isOK    = api.Errno(0)
	isForm  = api.Errno(3)
	isShort = api.Errno(5)
)

// kind is one of the five types that are put and got: its calls, whether a value of it may be, and values of it that may.
type kind struct {
	name   string
	of     reflect.Type
	put    func(b []byte, x any) []byte
	get    func(b []byte) (any, []byte, api.Errno)
	may    func(x any) bool
	values []any
}

// kindOf makes a kind of calls with their own types.
func kindOf[T any](name string, put func([]byte, T) []byte, get func([]byte) (T, []byte, api.Errno), may func(T) bool, values []T) kind {
	k := kind{
		name: name,
		of:   reflect.TypeFor[T](),
		put:  func(b []byte, x any) []byte { return put(b, x.(T)) },
		get: func(b []byte) (any, []byte, api.Errno) {
			x, rest, err := get(b)
			return x, rest, err
		},
		may: func(x any) bool { return may(x.(T)) },
	}
	for _, x := range values {
		k.values = append(k.values, x)
	}
	return k
}

// kindsOfAll answers the five kinds.
func kindsOfAll() []kind {
	return []kind{
		kindOf("a vector", pack.PutVec, pack.GetVec, vec.Check, vecs()),
		kindOf("a transaction", pack.PutTx, pack.GetTx, ops.CheckTx, txs()),
		kindOf("a stamp", pack.PutStamp, pack.GetStamp, stamp.Check, stamps()),
		kindOf("a store", pack.PutStore, pack.GetStore, store.Check, stores()),
		kindOf("what is kept", pack.PutKept, pack.GetKept, keptMay, kepts()),
	}
}

// eachKind runs a test for each of the five kinds.
func eachKind(t *testing.T, test func(t *testing.T, k kind)) {
	for _, k := range kindsOfAll() {
		t.Run(k.name, func(t *testing.T) { test(t, k) })
	}
}

// number answers the bytes of a number, as layer 1 has them.
func number(n int) []byte {
	return binary.AppendUvarint(nil, uint64(n<<1)^uint64(n>>63))
}

// plain answers the bytes of a value, by the words of the chapter: what a struct and an array hold is put part by part, a list behind how many elements it has.
func plain(x any) []byte {
	return plainOf(reflect.ValueOf(x))
}

func plainOf(v reflect.Value) []byte {
	var b []byte
	switch v.Kind() {
	case reflect.Int:
		return number(int(v.Int()))
	case reflect.Bool:
		if v.Bool() {
			return number(1)
		}
		return number(0)
	case reflect.String:
		return append(number(v.Len()), v.String()...)
	case reflect.Slice:
		b = number(v.Len())
		fallthrough
	case reflect.Array:
		for i := range v.Len() {
			b = append(b, plainOf(v.Index(i))...)
		}
	case reflect.Struct:
		for i := range v.NumField() {
			b = append(b, plainOf(v.Field(i))...)
		}
	default:
		panic("no such type: " + v.Type().String())
	}
	return b
}

// longest answers how many elements the longest list in a value has.
func longest(v reflect.Value) int {
	most := 0
	switch v.Kind() {
	case reflect.Slice:
		most = v.Len()
		fallthrough
	case reflect.Array:
		for i := range v.Len() {
			most = max(most, longest(v.Index(i)))
		}
	case reflect.Struct:
		for i := range v.NumField() {
			most = max(most, longest(v.Field(i)))
		}
	}
	return most
}

// rises tells whether numbers rise, each of them one that a peer may have.
func rises(l []int) bool {
	for i, n := range l {
		if n < 1 || n > peersMost || i > 0 && n <= l[i-1] {
			return false
		}
	}
	return true
}

// baseMay tells of a base whether it may be, by the words of P21.2.
func baseMay(x api.Base) bool {
	if x.Self < 1 || x.Self > peersMost || x.State < 0 || x.State > 3 || x.Boot < 0 || x.Boot > bootMost || x.Time < 0 || x.Time > timeMost {
		return false
	}
	if !stamp.Check(x.Stamp) || !vec.Check(x.Vec) || !vec.Check(x.Cut) || !vec.Leq(x.Cut, x.Vec) || !store.Check(x.Store) {
		return false
	}
	return rises(x.Joined) && rises(x.Left) && rises(x.Heirs)
}

// keptMay tells of what is kept whether it may be, by the words of P21.2.
func keptMay(k api.Kept) bool {
	v := k.Base.Vec
	if !baseMay(k.Base) || !vec.Check(k.Pruned) || !vec.Leq(k.Pruned, v) || len(k.Log) > listMost || k.Seg < 0 || k.Seg > segMost {
		return false
	}
	for i, x := range k.Log {
		if !ops.CheckTx(x) || !vec.Has(v, x.Dot) || vec.Has(k.Pruned, x.Dot) {
			return false
		}
		for _, y := range k.Log[:i] {
			if x.Dot == y.Dot {
				return false
			}
		}
	}
	return true
}

// What a number in bytes is there for.
const (
	asNumber = "a number"
	asLength = "a text's length"
	asCount  = "a list's count"
	asBool   = "a bool"
	asKids   = "a tree's count"
)

// token is a number in bytes: where it stands, how many bytes it has, what it is there for.
type token struct {
	at   int
	size int
	as   string
}

// plainReader reads values by the words of the chapter, up to the first thing that is wrong; and tells where the numbers stood.
type plainReader struct {
	left   []byte
	err    api.Errno
	gone   int
	tokens []token
}

// fail has an error, unless there is one already.
func (r *plainReader) fail(err api.Errno) {
	if r.err == isOK {
		r.err = err
	}
}

// number reads a number that is there for that.
func (r *plainReader) number(as string) int {
	if r.err != isOK {
		return 0
	}
	size := 1
	for size <= len(r.left) && r.left[size-1] >= 128 {
		size++
	}
	if size > len(r.left) {
		r.fail(isShort)
		return 0
	}
	if size > 10 || size == 10 && r.left[9] > 1 || size > 1 && r.left[size-1] == 0 {
		r.fail(isForm)
		return 0
	}
	var u uint64
	for i, c := range r.left[:size] {
		u |= uint64(c&127) << (7 * i)
	}
	r.tokens = append(r.tokens, token{r.gone, size, as})
	r.pass(size)
	if u%2 == 1 {
		return -int(u/2) - 1
	}
	return int(u / 2)
}

// pass goes on by so many bytes.
func (r *plainReader) pass(n int) {
	r.left = r.left[n:]
	r.gone += n
}

// text reads a text.
func (r *plainReader) text() string {
	n := r.number(asLength)
	if n < 0 || n > textMost {
		r.fail(isForm)
	} else if n > len(r.left) {
		r.fail(isShort)
	}
	if r.err != isOK {
		return ""
	}
	s := string(r.left[:n])
	r.pass(n)
	return s
}

// tree reads a tree that is at most room deep.
func (r *plainReader) tree(room int) api.Tree {
	t := api.Tree{N: r.number(asNumber)}
	n := r.number(asKids)
	if n != 0 && n != 2 || n == 2 && room == 0 {
		r.fail(isForm)
	}
	for range n {
		if r.err != isOK {
			break
		}
		t.Kids = append(t.Kids, r.tree(room-1))
	}
	return t
}

// into reads what v is of, into it.
func (r *plainReader) into(v reflect.Value) {
	if v.Type() == reflect.TypeFor[api.Tree]() {
		v.Set(reflect.ValueOf(r.tree(depthMost)))
		return
	}
	switch v.Kind() {
	case reflect.Int:
		v.SetInt(int64(r.number(asNumber)))
	case reflect.Bool:
		n := r.number(asBool)
		if n < 0 || n > 1 {
			r.fail(isForm)
		}
		v.SetBool(n == 1)
	case reflect.String:
		v.SetString(r.text())
	case reflect.Slice:
		n := r.number(asCount)
		if n < 0 || n > listMost {
			r.fail(isForm)
		}
		for i := 0; i < n && r.err == isOK; i++ {
			x := reflect.New(v.Type().Elem()).Elem()
			r.into(x)
			v.Set(reflect.Append(v, x))
		}
	case reflect.Array:
		for i := range v.Len() {
			r.into(v.Index(i))
		}
	case reflect.Struct:
		for i := range v.NumField() {
			r.into(v.Field(i))
		}
	}
}

// wantGet answers what Get is to answer, by the words of P21.1.
func wantGet(k kind, b []byte) (any, []byte, api.Errno) {
	r := plainReader{left: b}
	v := reflect.New(k.of).Elem()
	r.into(v)
	if r.err == isOK && !k.may(v.Interface()) {
		r.fail(isForm)
	}
	if r.err != isOK {
		return reflect.Zero(k.of).Interface(), nil, r.err
	}
	return v.Interface(), r.left, isOK
}

// tokensOf answers the numbers that stand in the bytes of a value.
func tokensOf(k kind, b []byte) []token {
	r := plainReader{left: b}
	r.into(reflect.New(k.of).Elem())
	return r.tokens
}

// wantPut answers what Put is to answer, by the words of P21.1: where Get would answer ErrForm, nothing.
func wantPut(k kind, b []byte, x any) []byte {
	if !k.may(x) || longest(reflect.ValueOf(x)) > listMost {
		return nil
	}
	return append(bytes.Clone(b), plain(x)...)
}

// same tells whether two values are the same; nil and empty lists are.
func same(a any, b any) bool {
	return sameOf(reflect.ValueOf(a), reflect.ValueOf(b))
}

func sameOf(a reflect.Value, b reflect.Value) bool {
	if a.Type() != b.Type() {
		return false
	}
	switch a.Kind() {
	case reflect.Slice, reflect.Array:
		if a.Len() != b.Len() {
			return false
		}
		for i := range a.Len() {
			if !sameOf(a.Index(i), b.Index(i)) {
				return false
			}
		}
		return true
	case reflect.Struct:
		for i := range a.NumField() {
			if !sameOf(a.Field(i), b.Field(i)) {
				return false
			}
		}
		return true
	}
	return a.Interface() == b.Interface()
}

// askPut asks whether Put answers what it is to answer.
func askPut(t *testing.T, k kind, b []byte, x any) {
	t.Helper()
	if got, want := k.put(b, x), wantPut(k, b, x); !bytes.Equal(got, want) || len(want) == 0 && got != nil {
		t.Fatalf("Put of %s behind %d bytes: %v, want %v: %s", k.name, len(b), head(got), head(want), told(x))
	}
}

// askGet asks whether Get answers what it is to answer, and tells the error that this is.
func askGet(t *testing.T, k kind, b []byte) api.Errno {
	t.Helper()
	want, left, err := wantGet(k, b)
	askGets(t, k, b, want, left, err)
	return err
}

// askGets asks whether Get answers that.
func askGets(t *testing.T, k kind, b []byte, want any, left []byte, err api.Errno) {
	t.Helper()
	got, rest, e := k.get(b)
	if e != err || !bytes.Equal(rest, left) || !same(got, want) {
		t.Fatalf("Get of %s of %v: %s %v %d, want %s %v %d", k.name, head(b), told(got), head(rest), e, told(want), head(left), err)
	}
}

// askRefused asks whether Get refuses these bytes with an error, and answers zeros beside.
func askRefused(t *testing.T, k kind, b []byte, err api.Errno) {
	t.Helper()
	askGets(t, k, b, reflect.Zero(k.of).Interface(), nil, err)
}

// told answers what a value looks like, as far as a few lines tell it.
func told(x any) string {
	s := fmt.Sprintf("%+v", x)
	return s[:min(len(s), 1000)]
}

// head answers the first ones of many bytes, so that they can be told.
func head(b []byte) []byte {
	return b[:min(len(b), 200)]
}
