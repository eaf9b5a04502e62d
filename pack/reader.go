package pack

import (
	"errors"
	"slices"

	"plexus/api"
	"plexus/num"
)

// more is what all bytes of a number but its last one are from on (layer 1).
const more = 128

// tooSoon is the error of bytes that end ahead of what they are to tell.
type tooSoon struct{}

// errForm is the error of bytes that tell what there is not.
var errForm = errors.New("pack: no such number, text, list, bool or tree")

// reader reads values from the beginning of bytes on. What is read first and is wrong is its error; behind that it reads zeros.
type reader struct {
	left []byte
	err  error
}

// Error tells it.
func (tooSoon) Error() string {
	return "pack: it ends too soon"
}

// numberOf answers the number of an error of a reader.
func numberOf(err error) api.Errno {
	var soon tooSoon
	if errors.As(err, &soon) {
		return api.ErrShort
	}
	return api.ErrForm
}

// getList reads a list whose elements are read by next.
func getList[T any](r *reader, next func() T) []T {
	var l []T
	for range r.count() {
		x := next()
		if r.err != nil {
			return nil
		}
		l = append(l, x)
	}
	return l
}

// getPart reads a number, or a text, by a call of layer 1, which needs at most so many bytes behind the first number. It is handed no more: it answers what is behind as new memory, and to make all that is left anew each time would take time by the square of how many there are.
func getPart[T any](r *reader, most int, get func([]byte) (T, []byte, api.Errno)) T {
	var nothing T
	if r.err != nil {
		return nothing
	}
	piece := r.left[:min(numberSize(r.left)+most, len(r.left))]
	x, rest, err := get(piece)
	switch err {
	case api.OK:
		r.left = r.left[len(piece)-len(rest):]
	case api.ErrShort:
		r.err = tooSoon{}
	default:
		r.err = errForm
	}
	return x
}

// numberSize answers how many bytes the number at the beginning has: all, if it does not end.
func numberSize(b []byte) int {
	last := slices.IndexFunc(b, func(c byte) bool {
		return c < more
	})
	if last < 0 {
		return len(b)
	}
	return last + 1
}

func (r *reader) number() int {
	return getPart(r, 0, num.Get)
}

func (r *reader) text() string {
	return getPart(r, api.MaxText, num.GetText)
}

// count reads how many elements a list has.
func (r *reader) count() int {
	n := r.number()
	if n < 0 || n > listMost {
		r.err = errForm
		return 0
	}
	return n
}

func (r *reader) flag() bool {
	n := r.number()
	if n != 0 && n != 1 {
		r.err = errForm
	}
	return n == 1
}

func (r *reader) vec() api.Vec {
	var v api.Vec
	for p := range v {
		v[p] = r.number()
	}
	return v
}

func (r *reader) dot() api.Dot {
	return api.Dot{Peer: r.number(), Seq: r.number()}
}

func (r *reader) mark() api.Mark {
	return api.Mark{Dot: r.dot(), Index: r.number()}
}

// tree reads a tree that is at most room deep. Trees that are wrong end the reading where that shows, so that none is gone down farther.
func (r *reader) tree(room int) api.Tree {
	t := api.Tree{N: r.number()}
	switch kids := r.number(); {
	case kids == 0:
	case kids == 2 && room > 0:
		t.Kids = []api.Tree{r.tree(room - 1), r.tree(room - 1)}
	default:
		r.err = errForm
	}
	return t
}

func (r *reader) stamp() api.Stamp {
	return api.Stamp{Id: r.tree(api.MaxDepth), Event: r.tree(api.MaxDepth)}
}

func (r *reader) op() api.Op {
	return api.Op{
		Kind:  r.number(),
		Key:   r.text(),
		Field: r.text(),
		Inner: r.number(),
		Act:   r.number(),
		N:     r.number(),
		Text:  r.text(),
		Ref:   r.mark(),
	}
}

func (r *reader) tx() api.Tx {
	return api.Tx{Dot: r.dot(), Deps: r.vec(), Time: r.number(), Ops: getList(r, r.op)}
}

func (r *reader) amount() api.Amount {
	return api.Amount{Mark: r.mark(), N: r.number()}
}

func (r *reader) write() api.Write {
	return api.Write{Mark: r.mark(), Time: r.number(), Text: r.text()}
}

func (r *reader) member() api.Member {
	return api.Member{Text: r.text(), Base: r.flag(), Marks: getList(r, r.mark)}
}

func (r *reader) elem() api.Elem {
	return api.Elem{Mark: r.mark(), Time: r.number(), Ref: r.mark(), Text: r.text(), Gone: getList(r, r.mark)}
}

func (r *reader) cell() api.Cell {
	return api.Cell{
		Kind:    r.number(),
		Base:    r.number(),
		Amounts: getList(r, r.amount),
		Writes:  getList(r, r.write),
		Members: getList(r, r.member),
		Elems:   getList(r, r.elem),
	}
}

func (r *reader) field() api.Field {
	return api.Field{Name: r.text(), Base: r.flag(), Marks: getList(r, r.mark), Cell: r.cell()}
}

func (r *reader) object() api.Object {
	return api.Object{Kind: r.number(), Key: r.text(), Cell: r.cell(), Fields: getList(r, r.field)}
}

func (r *reader) store() api.Store {
	return api.Store{Objects: getList(r, r.object)}
}

func (r *reader) base() api.Base {
	return api.Base{
		Self:   r.number(),
		State:  r.number(),
		Stamp:  r.stamp(),
		Boot:   r.number(),
		Vec:    r.vec(),
		Cut:    r.vec(),
		Time:   r.number(),
		Store:  r.store(),
		Joined: getList(r, r.number),
		Left:   getList(r, r.number),
		Heirs:  getList(r, r.number),
	}
}

func (r *reader) kept() api.Kept {
	return api.Kept{Base: r.base(), Pruned: r.vec(), Log: getList(r, r.tx), Seg: r.number()}
}
