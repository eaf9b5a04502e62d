package prepare_test

import (
	"fmt"
	"math"
	"reflect"
	"slices"
	"strings"
	"testing"

	"plexus/api"
	"plexus/object"
	"plexus/ops"
	"plexus/prepare"
)

// spoil is a reason of chapter 7 for which an update is none, and how one that may be becomes such.
type spoil struct {
	why   string
	where func(api.Update) bool
	turn  func(*api.Update)
}

// isSeq tells whether an update may have a place.
func isSeq(u api.Update) bool {
	return (u.Act == 4 || u.Act == 2) && (u.Kind == 5 || u.Kind == 6 && u.Inner == 5)
}

// usesText tells whether an update may have a Text.
func usesText(u api.Update) bool {
	return u.Act == 3 || u.Act == 4 || u.Act != 5 && (u.Kind == 4 || u.Inner == 4)
}

// usesN tells whether an update may have a number.
func usesN(u api.Update) bool {
	return u.Act != 5 && (u.Kind == 1 || u.Inner == 1)
}

// spoils are all reasons that chapter 7 names.
func spoils() []spoil {
	always := func(api.Update) bool { return true }
	leaf := func(u api.Update) bool { return u.Kind != 6 }
	isMap := func(u api.Update) bool { return u.Kind == 6 }
	not := func(f func(api.Update) bool) func(api.Update) bool {
		return func(u api.Update) bool { return !f(u) }
	}
	l := []spoil{
		{"no key", always, func(u *api.Update) { u.Key = "" }},
		{"a key too long", always, func(u *api.Update) { u.Key = text(65) }},
		{"a leaf's field", leaf, func(u *api.Update) { u.Field = "f" }},
		{"no field of a map", isMap, func(u *api.Update) { u.Field = "" }},
		{"a field too long", isMap, func(u *api.Update) { u.Field = text(65) }},
		{"a text too long", usesText, func(u *api.Update) { u.Text = text(65) }},
		{"a text that is not used", not(usesText), func(u *api.Update) { u.Text = "x" }},
		{"a drop of a leaf", leaf, func(u *api.Update) { u.Act = 5 }},
	}
	for _, n := range []int{math.MinInt, -1, 0, 7, 8, math.MaxInt} {
		l = append(l, spoil{"no kind", always, func(u *api.Update) { u.Kind = n }})
		l = append(l, spoil{"no inner kind", isMap, func(u *api.Update) { u.Inner = n }})
	}
	for _, n := range []int{math.MinInt, -1, 0, 6, 7, math.MaxInt} {
		l = append(l, spoil{"no act", always, func(u *api.Update) { u.Act = n }})
	}
	l = append(l, spoil{"a map in a map", isMap, func(u *api.Update) { u.Inner = 6 }})
	for _, n := range []int{math.MinInt, -1, 1, 5, math.MaxInt} {
		l = append(l, spoil{"a leaf's inner kind", leaf, func(u *api.Update) { u.Inner = n }})
		l = append(l, spoil{"a number that is not used", not(usesN), func(u *api.Update) { u.N = n }})
		l = append(l, spoil{"a place that is not used", not(isSeq), func(u *api.Update) { u.At = n }})
	}
	for _, n := range []int{math.MinInt, -1<<30 - 1, 1<<30 + 1, math.MaxInt} {
		l = append(l, spoil{"a number beyond", usesN, func(u *api.Update) { u.N = n }})
	}
	for _, n := range []int{math.MinInt, -2, -1, placeMost + 1, math.MaxInt} {
		l = append(l, spoil{"a place beyond", isSeq, func(u *api.Update) { u.At = n }})
	}
	return l
}

// misfits are updates whose act fits another kind.
func misfits() []api.Update {
	fit := map[int][]int{1: {1}, 2: {3}, 3: {3}, 4: {1, 2}, 5: {4, 2}}
	var l []api.Update
	for kind := 1; kind <= 5; kind++ {
		for act := 1; act <= 4; act++ {
			if !slices.Contains(fit[kind], act) {
				l = append(l, api.Update{Kind: kind, Key: "k", Act: act}, api.Update{Kind: 6, Key: "k", Field: "f", Inner: kind, Act: act})
			}
		}
	}
	return l
}

// objectsFor are objects that an update would mean, if it were one: of its Kind and Key, where there may be such.
func objectsFor(u api.Update) []api.Object {
	o := filled(u.Kind)
	o.Key = u.Key
	e, _ := object.New(u.Kind, u.Key)
	l := []api.Object{o, e}
	if u.Kind == 5 || u.Kind == 6 {
		o = homes()[u.Kind-5].made()
		o.Key = u.Key
		l = append(l, o)
	}
	return l
}

// P15.1: ErrArg of an update that chapter 7 refuses, for each reason that it names, upon objects of its Kind and Key.
func TestUpdatesThatAreNone(t *testing.T) {
	met := map[string]int{}
	var l []api.Update
	for _, s := range spoils() {
		for _, u := range good() {
			if !s.where(u) {
				continue
			}
			s.turn(&u)
			met[s.why]++
			l = append(l, u)
		}
		if met[s.why] == 0 {
			t.Errorf("no update has %s", s.why)
		}
	}
	l = append(append(l, misfits()...), api.Update{}, api.Update{Kind: 7, Act: 1, N: 3})
	for _, u := range l {
		if ops.CheckUpdate(u) {
			t.Errorf("%+v may be", u)
		}
		for _, o := range append(objectsFor(u), api.Object{}, empty(5)) {
			askError(t, o, u, 2)
		}
	}
}

// turned answers an object that is the same, but for what turn does to it.
func turned(o api.Object, turn func(*api.Object)) api.Object {
	turn(&o)
	return o
}

// wrongLeaves are leaves that do not Check.
func wrongLeaves() []api.Object {
	field := []api.Field{{Name: "f", Base: true, Cell: api.Cell{Kind: 5}}}
	var l []api.Object
	for kind := 1; kind <= 5; kind++ {
		for _, o := range []api.Object{empty(kind), filled(kind)} {
			for _, other := range []int{math.MinInt, -1, 0, kind%5 + 1, 6, 7, math.MaxInt} {
				l = append(l, turned(o, func(o *api.Object) { o.Cell.Kind = other }))
			}
			l = append(l,
				turned(o, func(o *api.Object) { o.Cell = api.Cell{} }),
				turned(o, func(o *api.Object) { o.Fields = field }),
				turned(o, func(o *api.Object) { o.Fields = []api.Field{{}} }),
				turned(o, func(o *api.Object) { o.Cell.Base = math.MaxInt }),
				turned(o, func(o *api.Object) { o.Cell.Amounts = []api.Amount{{}} }),
				turned(o, func(o *api.Object) { o.Cell.Writes = []api.Write{{}} }),
				turned(o, func(o *api.Object) { o.Cell.Members = []api.Member{{}} }),
				turned(o, func(o *api.Object) { o.Cell.Elems = []api.Elem{{}} }))
		}
	}
	a, b := mk(1, 1, 1), mk(1, 1, 2)
	for _, e := range [][]api.Elem{
		{{Mark: b}, {Mark: a}}, {{Mark: a}, {Mark: a}}, {{Mark: a, Ref: b}}, {{Mark: a, Ref: a}}, {{Mark: a, Ref: b}, {Mark: b, Ref: a}},
		{{Mark: mk(1, 1, 0)}}, {{Mark: a, Text: text(65)}}, {{Mark: a, Gone: []api.Mark{b, a}}}, {{Mark: a, Gone: []api.Mark{{}}}},
	} {
		l = append(l, turned(empty(5), func(o *api.Object) { o.Cell.Elems = e }))
	}
	return l
}

// wrongMaps are maps that do not Check.
func wrongMaps() []api.Object {
	var l []api.Object
	for _, o := range []api.Object{empty(6), homes()[1].made()} {
		for _, c := range []api.Cell{{Kind: 5}, {Kind: -1}, {Kind: 6}, {Base: 1}, {Amounts: []api.Amount{{}}}, {Writes: []api.Write{{}}}, {Members: []api.Member{{}}}, {Elems: []api.Elem{{}}}} {
			l = append(l, turned(o, func(o *api.Object) { o.Cell = c }))
		}
	}
	one := api.Cell{Kind: 5, Elems: []api.Elem{{Mark: mk(1, 1, 1)}}}
	for _, f := range [][]api.Field{
		{{}}, {{Name: "f"}}, {{Name: "", Base: true, Cell: one}}, {{Name: text(65), Base: true, Cell: one}}, {{Name: "f", Cell: api.Cell{Kind: 5}}},
		{{Name: "f", Base: true, Cell: api.Cell{Kind: 6}}}, {{Name: "f", Base: true, Cell: api.Cell{Kind: 5, Base: 1}}}, {{Name: "f", Marks: []api.Mark{{}}, Cell: one}},
		{{Name: "f", Marks: []api.Mark{mk(2, 1, 1), mk(1, 1, 1)}, Cell: one}}, {{Name: "g", Base: true, Cell: one}, {Name: "f", Base: true, Cell: one}}, {{Name: "f", Base: true, Cell: one}, {Name: "f", Base: true, Cell: one}},
	} {
		l = append(l, turned(empty(6), func(o *api.Object) { o.Fields = f }))
	}
	return l
}

// P15.1: ErrArg of an object that does not Check, for each reason of chapter 14, whatever update is asked: of its Kind and Key, and with a place that is not there, too.
func TestObjectsThatMayNotBe(t *testing.T) {
	for _, o := range slices.Concat([]api.Object{{}, {Key: "k"}, {Kind: 5}, {Kind: 6}, {Kind: 7, Key: "k"}, {Kind: -1, Key: "k"}, {Kind: 5, Key: "k"}}, wrongLeaves(), wrongMaps()) {
		if object.Check(o) {
			t.Errorf("%+v may be", o)
		}
		for _, u := range good() {
			askError(t, o, u, 2)
			if isSeq(u) {
				u.At = 1000
				askError(t, o, u, 2)
			}
		}
	}
	for _, key := range []string{"", text(65), text(1000)} {
		for _, u := range good() {
			o := filled(u.Kind)
			o.Key, u.Key = key, key
			askError(t, o, u, 2)
			u.Key = "k"
			askError(t, o, u, 2)
		}
	}
}

// P15.1: ErrArg of an object of another Kind, of another Key, and of both; ahead of ErrNone, where the place is not there either.
func TestOtherObjects(t *testing.T) {
	keys := []string{"k", "K", "kk", "j", "k\x00", "\x00", text(64)}
	for _, u := range good() {
		for kind := 1; kind <= 6; kind++ {
			for _, key := range keys {
				for _, o := range []api.Object{filled(kind), empty(kind)} {
					o.Key = key
					want, wantErr := wanted(o, u)
					if other := kind != u.Kind || key != u.Key; other != (wantErr == 2) {
						t.Errorf("%+v upon %+v: %d", u, o, wantErr)
					}
					askOp(t, o, u, want, wantErr)
					far := u
					if isSeq(u) {
						far.At = placeMost
						want, wantErr = wanted(o, far)
						askOp(t, o, far, want, wantErr)
					}
				}
			}
		}
	}
	h := homes()[0]
	askError(t, homes()[1].made(), h.insAt(0, "x"), 2)
	askError(t, homes()[1].made(), h.insAt(99, "x"), 2)
	askError(t, turned(h.made(), func(o *api.Object) { o.Key = "K" }), h.insAt(1, "x"), 2)
	askError(t, turned(h.made(), func(o *api.Object) { o.Key = "K" }), h.insAt(99, "x"), 2)
	askError(t, h.made(), h.insAt(99, "x"), 7)
	askError(t, h.made(), h.insAt(99, text(65)), 2)
	askError(t, h.removed(), h.delAt(-1), 2)
}

// P15.1, P15.2: Op of updates put together from all parts, upon objects of every kind, held against the document's account.
func TestOpOfAll(t *testing.T) {
	objects := []api.Object{{}, homes()[0].made(), homes()[1].made(), homes()[0].removed(), homes()[1].removed()}
	for kind := 1; kind <= 6; kind++ {
		objects = append(objects, empty(kind), filled(kind))
	}
	met := map[api.Errno]int{}
	for kind := -1; kind <= 8; kind++ {
		for inner := -1; inner <= 7; inner++ {
			for act := -1; act <= 6; act++ {
				for _, field := range []string{"", "f", "e"} {
					for _, u := range parts(api.Update{Kind: kind, Key: "k", Field: field, Inner: inner, Act: act}) {
						for _, o := range objects {
							want, err := wanted(o, u)
							met[err]++
							askOp(t, o, u, want, err)
						}
					}
				}
			}
		}
	}
	if len(met) != 3 || met[0] == 0 || met[2] == 0 || met[7] == 0 {
		t.Error(met)
	}
}

// parts answers an update with all that an act may use.
func parts(u api.Update) []api.Update {
	var l []api.Update
	for _, u.Text = range []string{"", "x"} {
		for _, u.N = range []int{0, -3} {
			for _, u.At = range []int{-1, 0, 1, 2, 5, 6, placeMost} {
				l = append(l, u)
			}
		}
	}
	return l
}

// roomy answers a value that is the same, of new memory, each list with some room behind its end.
func roomy(v reflect.Value) reflect.Value {
	made := v
	switch v.Kind() {
	case reflect.Slice:
		made = reflect.MakeSlice(v.Type(), v.Len(), v.Len()+3)
		for k := range v.Len() {
			made.Index(k).Set(roomy(v.Index(k)))
		}
	case reflect.Struct:
		made = reflect.New(v.Type()).Elem()
		for k := range v.NumField() {
			made.Field(k).Set(roomy(v.Field(k)))
		}
	}
	return made
}

// image tells all that a value holds, the room behind its lists' ends too.
func image(v reflect.Value) string {
	var b strings.Builder
	switch v.Kind() {
	case reflect.Slice:
		fmt.Fprint(&b, v.Len(), "[")
		for k := range v.Cap() {
			b.WriteString(image(v.Slice(0, v.Cap()).Index(k)))
		}
		b.WriteString("]")
	case reflect.Struct:
		for k := range v.NumField() {
			b.WriteString(image(v.Field(k)))
		}
	default:
		fmt.Fprintf(&b, "%v;", v)
	}
	return b.String()
}

// R3: an object that is handed in is as it was behind each call, what its lists hold too; the same call answers the same again.
func TestArgumentsStay(t *testing.T) {
	objects := append(wrongLeaves()[:20], wrongMaps()...)
	for _, h := range homes() {
		objects = append(objects, h.made(), h.removed(), object.Fold(h.made(), historyCut()), filled(h.kind), empty(h.kind), filled(4))
	}
	for _, o := range objects {
		given := roomy(reflect.ValueOf(o)).Interface().(api.Object)
		was := image(reflect.ValueOf(given))
		for _, u := range append(good(), homes()[0].insAt(99, "x"), homes()[1].delAt(99), homes()[1].insAt(5, "x"), homes()[0].delAt(-1)) {
			first, err := prepare.Op(given, u)
			again, errAgain := prepare.Op(given, u)
			if first != again || err != errAgain {
				t.Errorf("Op(%+v, %+v) = %+v, %d, then %+v, %d", o, u, first, err, again, errAgain)
			}
			prepare.Leaf(u)
			if image(reflect.ValueOf(given)) != was {
				t.Fatalf("%+v changed %+v", u, o)
			}
		}
	}
}

// R3: nil and empty lists are the same, and what room a list has behind its end is nobody's.
func TestListsAlike(t *testing.T) {
	h := homes()[0]
	all := h.made().Cell.Elems
	o := empty(5)
	for n := range len(all) + 1 {
		o.Cell.Elems = all[:n:n]
		exact := make([]api.Elem, n)
		copy(exact, o.Cell.Elems)
		p := o
		p.Cell.Elems, p.Cell.Amounts, p.Fields = all[:n], []api.Amount{}, []api.Field{}
		q := o
		q.Cell.Elems = exact
		for at := range 7 {
			for _, u := range []api.Update{h.insAt(at, "x"), h.delAt(at)} {
				want, err := prepare.Op(q, u)
				askOp(t, p, u, want, err)
				askOp(t, o, u, want, err)
			}
		}
	}
}

// R1: long sequences, of one chain and of many elements at the beginning, are gone through in time.
func TestLongSequences(t *testing.T) {
	const most = 1 << 17
	chain, heads := empty(5), empty(5)
	for k := range most {
		e := api.Elem{Mark: mk(1, k+1, 1), Time: 1, Text: "a"}
		heads.Cell.Elems = append(heads.Cell.Elems, e)
		if k > 0 {
			e.Ref = mk(1, k, 1)
		}
		chain.Cell.Elems = append(chain.Cell.Elems, e)
	}
	check := func(o api.Object, u api.Update, ref api.Mark, wantErr api.Errno) {
		t.Helper()
		if got, err := prepare.Op(o, u); got.Ref != ref || err != wantErr {
			t.Errorf("%+v: %+v, %d", u, got, err)
		}
	}
	h := homes()[0]
	check(chain, h.insAt(most, "x"), mk(1, most, 1), 0)
	check(chain, h.delAt(most-1), mk(1, most, 1), 0)
	check(chain, h.delAt(7), mk(1, 8, 1), 0)
	check(chain, h.delAt(most), api.Mark{}, 7)
	check(chain, h.insAt(most+1, "x"), api.Mark{}, 7)
	check(heads, h.insAt(most, "x"), mk(1, 1, 1), 0)
	check(heads, h.delAt(0), mk(1, most, 1), 0)
	check(heads, h.insAt(placeMost, "x"), api.Mark{}, 7)
}
