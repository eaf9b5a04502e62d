package pack

import (
	"plexus/api"
	"plexus/num"
)

// writer puts values one behind the other, each of its parts in api's order.
type writer struct {
	out     []byte
	tooLong bool // a list had more elements than are read again
}

// putList puts a list whose elements are put by put.
func putList[T any](w *writer, l []T, put func(T)) {
	w.tooLong = w.tooLong || len(l) > listMost
	w.number(len(l))
	for _, x := range l {
		put(x)
	}
}

// number puts a number. Layer 1 makes its bytes alone, and not all that were put anew with it: that would take time by the square of how many they are.
func (w *writer) number(n int) {
	w.out = append(w.out, num.Put(nil, n)...)
}

func (w *writer) text(s string) {
	w.out = append(w.out, num.PutText(nil, s)...)
}

func (w *writer) flag(f bool) {
	if f {
		w.number(1)
	} else {
		w.number(0)
	}
}

func (w *writer) vec(v api.Vec) {
	for _, n := range v {
		w.number(n)
	}
}

func (w *writer) dot(d api.Dot) {
	w.number(d.Peer)
	w.number(d.Seq)
}

func (w *writer) mark(m api.Mark) {
	w.dot(m.Dot)
	w.number(m.Index)
}

func (w *writer) tree(t api.Tree) {
	w.number(t.N)
	putList(w, t.Kids, w.tree)
}

func (w *writer) stamp(s api.Stamp) {
	w.tree(s.Id)
	w.tree(s.Event)
}

func (w *writer) op(o api.Op) {
	w.number(o.Kind)
	w.text(o.Key)
	w.text(o.Field)
	w.number(o.Inner)
	w.number(o.Act)
	w.number(o.N)
	w.text(o.Text)
	w.mark(o.Ref)
}

func (w *writer) tx(t api.Tx) {
	w.dot(t.Dot)
	w.vec(t.Deps)
	w.number(t.Time)
	putList(w, t.Ops, w.op)
}

func (w *writer) amount(a api.Amount) {
	w.mark(a.Mark)
	w.number(a.N)
}

func (w *writer) write(x api.Write) {
	w.mark(x.Mark)
	w.number(x.Time)
	w.text(x.Text)
}

func (w *writer) member(m api.Member) {
	w.text(m.Text)
	w.flag(m.Base)
	putList(w, m.Marks, w.mark)
}

func (w *writer) elem(e api.Elem) {
	w.mark(e.Mark)
	w.number(e.Time)
	w.mark(e.Ref)
	w.text(e.Text)
	putList(w, e.Gone, w.mark)
}

func (w *writer) cell(c api.Cell) {
	w.number(c.Kind)
	w.number(c.Base)
	putList(w, c.Amounts, w.amount)
	putList(w, c.Writes, w.write)
	putList(w, c.Members, w.member)
	putList(w, c.Elems, w.elem)
}

func (w *writer) field(f api.Field) {
	w.text(f.Name)
	w.flag(f.Base)
	putList(w, f.Marks, w.mark)
	w.cell(f.Cell)
}

func (w *writer) object(o api.Object) {
	w.number(o.Kind)
	w.text(o.Key)
	w.cell(o.Cell)
	putList(w, o.Fields, w.field)
}

func (w *writer) store(s api.Store) {
	putList(w, s.Objects, w.object)
}

func (w *writer) base(x api.Base) {
	w.number(x.Self)
	w.number(x.State)
	w.stamp(x.Stamp)
	w.number(x.Boot)
	w.vec(x.Vec)
	w.vec(x.Cut)
	w.number(x.Time)
	w.store(x.Store)
	putList(w, x.Joined, w.number)
	putList(w, x.Left, w.number)
	putList(w, x.Heirs, w.number)
}

func (w *writer) kept(k api.Kept) {
	w.base(k.Base)
	w.vec(k.Pruned)
	putList(w, k.Log, w.tx)
	w.number(k.Seg)
}
