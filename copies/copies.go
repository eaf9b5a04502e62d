// Package copies makes values anew, so that an answer shares no memory with what was handed in. It stands on api alone, and is no layer of its own.
package copies

import (
	"slices"

	"plexus/api"
)

// Nothing is promised of a tree with more parts within one another, or in all, than these; one that holds itself goes beyond them.
const (
	mostWithin = 1 << 16
	mostParts  = 1 << 24
)

// Cell answers a cell that is the same and shares no list with it. It asks nothing of the cell: those that may not be are answered as they are, too.
func Cell(c api.Cell) api.Cell {
	c.Amounts = slices.Clone(c.Amounts)
	c.Writes = slices.Clone(c.Writes)
	c.Members = slices.Clone(c.Members)
	for i, m := range c.Members {
		c.Members[i].Marks = slices.Clone(m.Marks)
	}
	c.Elems = slices.Clone(c.Elems)
	for i, e := range c.Elems {
		c.Elems[i].Gone = slices.Clone(e.Gone)
	}
	return c
}

// Fields answers fields that are the same and share no list with them, nor do their cells. It asks nothing of the fields.
func Fields(l []api.Field) []api.Field {
	l = slices.Clone(l)
	for i, f := range l {
		l[i].Marks = slices.Clone(f.Marks)
		l[i].Cell = Cell(f.Cell)
	}
	return l
}

// Object answers an object that is the same and shares no list with it, neither of its cell nor of its fields. It asks nothing of the object.
func Object(o api.Object) api.Object {
	o.Cell = Cell(o.Cell)
	o.Fields = Fields(o.Fields)
	return o
}

// Store answers a store that is the same and shares no list with it, nor do its objects. It asks nothing of the store.
func Store(s api.Store) api.Store {
	s.Objects = slices.Clone(s.Objects)
	for i, o := range s.Objects {
		s.Objects[i] = Object(o)
	}
	return s
}

// Tx answers a transaction that is the same and shares no list with it. It asks nothing of the transaction.
func Tx(t api.Tx) api.Tx {
	t.Ops = slices.Clone(t.Ops)
	return t
}

// Txs answers transactions that are the same and share no list with them, nor with each other. It asks nothing of the transactions.
func Txs(l []api.Tx) []api.Tx {
	l = slices.Clone(l)
	for i, t := range l {
		l[i] = Tx(t)
	}
	return l
}

// Disk answers a disk that is the same and shares no list with it, nor do its files. It asks nothing of the disk.
func Disk(d api.Disk) api.Disk {
	d.Files = slices.Clone(d.Files)
	for i, f := range d.Files {
		d.Files[i].Data = slices.Clone(f.Data)
	}
	return d
}

// Tree answers a tree that is the same and shares no list with it. It asks nothing of the tree but that it ends: one without end is answered as zero.
func Tree(t api.Tree) api.Tree {
	if partsLeft(t, mostWithin, mostParts) < 0 {
		return api.Tree{}
	}
	return tree(t)
}

// Base answers a base that is the same and shares no list with it, nor do its stamp's trees and its store. It asks nothing of the base but what Tree asks of its trees.
func Base(x api.Base) api.Base {
	x.Stamp = api.Stamp{Id: Tree(x.Stamp.Id), Event: Tree(x.Stamp.Event)}
	x.Store = Store(x.Store)
	x.Joined = slices.Clone(x.Joined)
	x.Left = slices.Clone(x.Left)
	x.Heirs = slices.Clone(x.Heirs)
	return x
}

// Kept answers what is kept, the same, that shares no list with it, neither of its base nor of its log. It asks no more of it than Base does.
func Kept(k api.Kept) api.Kept {
	k.Base = Base(k.Base)
	k.Log = Txs(k.Log)
	return k
}

// Views answers views that are the same and share no list with them. It asks nothing of the views.
func Views(v api.Views) api.Views {
	v.Active = slices.Clone(v.Active)
	v.Passive = slices.Clone(v.Passive)
	return v
}

// tree answers what Tree does, of one that ends.
func tree(t api.Tree) api.Tree {
	t.Kids = slices.Clone(t.Kids)
	for i, k := range t.Kids {
		t.Kids[i] = tree(k)
	}
	return t
}

// partsLeft answers how many of so many parts are left when those of t are taken from them, of a t that has at most within of them within one another; below 0: it has more.
func partsLeft(t api.Tree, within int, left int) int {
	left--
	for _, k := range t.Kids {
		if within == 0 || left < 0 {
			return -1
		}
		left = partsLeft(k, within-1, left)
	}
	return left
}
