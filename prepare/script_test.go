package prepare_test

import (
	"fmt"
	"math/rand"
	"slices"
	"testing"

	"plexus/api"
	"plexus/object"
	"plexus/ops"
	"plexus/prepare"
	"plexus/vec"
)

// replica is an object as one peer has it: what was delivered, the greatest time of that.
type replica struct {
	has  api.Vec
	time int
	o    api.Object
}

// deliver does a transaction, if it is the next one of its peer, and all that it has seen is there.
func (r *replica) deliver(x api.Tx) {
	if vec.Leq(x.Deps, r.has) && r.has[x.Dot.Peer] == x.Dot.Seq-1 {
		r.o = behind(r.o, x)
		r.has[x.Dot.Peer]++
		r.time = max(r.time, x.Time)
	}
}

// asks answers an update of a sequence with so many elements, and what its texts are behind it.
func asks(r *rand.Rand, h home, was []string, s string) (api.Update, []string) {
	n := len(was)
	switch k := r.Intn(8); {
	case n > 0 && k < 3:
		at := r.Intn(n)
		return h.delAt(at), slices.Delete(slices.Clone(was), at, at+1)
	case h.kind == 6 && k == 3:
		return api.Update{Kind: 6, Key: "k", Field: h.field, Inner: 5, Act: 5}, nil
	}
	at := r.Intn(n + 1)
	return h.insAt(at, s), slices.Insert(slices.Clone(was), at, s)
}

// commit answers a transaction of a few updates of a peer, each prepared behind those ahead of it, while the transaction has no name.
func commit(t *testing.T, r *rand.Rand, at *replica, peer int, homes []home, label string) api.Tx {
	open := api.Tx{Deps: at.has, Time: at.time + 1}
	o := at.o
	for k := range 1 + r.Intn(4) {
		h := homes[r.Intn(len(homes))]
		was := h.texts(o)
		u, want := asks(r, h, was, fmt.Sprint(label, ".", k))
		x, err := prepare.Op(o, u)
		wantOp, wantErr := wanted(o, u)
		if err != wantErr || x != wantOp || err != 0 || !ops.CheckOp(x) {
			t.Fatalf("Op(%+v, %+v) = %+v, %d, want %+v, %d", o, u, x, err, wantOp, wantErr)
		}
		open.Ops = append(open.Ops, x)
		before := h.others(o)
		o = object.Do(o, open, k+1)
		if got := h.texts(o); !slices.Equal(got, want) || h.others(o) != before {
			t.Fatalf("%+v upon %q: %q, want %q", u, was, got, want)
		}
	}
	if !ops.CheckOpen(open) {
		t.Fatalf("%+v may not be", open)
	}
	open.Dot = api.Dot{Peer: peer, Seq: at.has[peer] + 1}
	open.Ops = ops.Resolve(open.Ops, open.Dot)
	if !ops.CheckTx(open) {
		t.Fatalf("%+v may not be", open)
	}
	at.deliver(open)
	for _, h := range homes {
		if !slices.Equal(h.texts(at.o), h.texts(o)) {
			t.Fatalf("%q, while it was open %q", h.texts(at.o), h.texts(o))
		}
	}
	return open
}

// cutFor answers a cut that all transactions that are to come to a peer have seen.
func cutFor(at *replica, all []*replica, log []api.Tx) api.Vec {
	cut := at.has
	for _, r := range all {
		cut = vec.Meet(cut, r.has)
	}
	for _, x := range log {
		if !vec.Has(at.has, x.Dot) {
			cut = vec.Meet(cut, x.Deps)
		}
	}
	return cut
}

// P15.1, P15.2: three peers prepare updates upon what each has, and get each other's transactions now and then, folding in between: each op is the document's, does what was asked where it was prepared, and all come to the same.
func TestScripts(t *testing.T) {
	fields := []home{{6, "f", 5}, {6, "g", 5}}
	for seed := range int64(200) {
		r := rand.New(rand.NewSource(seed))
		kind, where := 5, homes()[:1]
		if seed%2 == 1 {
			kind, where = 6, fields
		}
		var log []api.Tx
		all := []*replica{{o: empty(kind)}, {o: empty(kind)}, {o: empty(kind)}}
		for step := range 40 {
			p := r.Intn(3)
			switch r.Intn(4) {
			case 0, 1:
				log = append(log, commit(t, r, all[p], p+1, where, fmt.Sprint(step)))
			case 2:
				for _, x := range log[:r.Intn(len(log)+1)] {
					all[p].deliver(x)
				}
			case 3:
				was := fmt.Sprint(object.Read(all[p].o))
				all[p].o = object.Fold(all[p].o, cutFor(all[p], all, log))
				if got := fmt.Sprint(object.Read(all[p].o)); got != was {
					t.Fatalf("folded %s, was %s", got, was)
				}
			}
		}
		for _, at := range all {
			for _, x := range log {
				at.deliver(x)
			}
			if got, want := fmt.Sprint(object.Read(at.o)), fmt.Sprint(object.Read(all[0].o)); got != want || at.has != all[0].has {
				t.Fatalf("seed %d: %s, and %s", seed, got, want)
			}
		}
		if vec.Total(all[0].has) != len(log) {
			t.Fatalf("seed %d: %v of %d", seed, all[0].has, len(log))
		}
	}
}
