// Package marks searches lists that rise by marks, and tells of lists of marks themselves. It stands on api and ops (7), and is no layer of its own.
package marks

import (
	"slices"
	"sort"

	"plexus/api"
	"plexus/ops"
)

// Find answers where a mark stands in a list that rises by marks, or would stand, and whether it is there.
func Find[T any](l []T, m api.Mark, mark func(T) api.Mark) (int, bool) {
	at := sort.Search(len(l), func(k int) bool {
		return !ops.Less(mark(l[k]), m)
	})
	return at, at < len(l) && mark(l[at]) == m
}

// Rise tells whether ops may have these marks, and each is ahead of the next one.
func Rise(l []api.Mark) bool {
	for k, m := range l {
		if m.Index < 1 || k > 0 && !ops.Less(l[k-1], m) {
			return false
		}
	}
	return true
}

// With answers marks that rise with one more, where it belongs, if it is not there already.
func With(l []api.Mark, m api.Mark) []api.Mark {
	at, there := Find(l, m, itself)
	l = slices.Clone(l)
	if !there {
		l = slices.Insert(l, at, m)
	}
	return l
}

// itself answers the mark that a mark stands under.
func itself(m api.Mark) api.Mark {
	return m
}
