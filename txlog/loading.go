package txlog

import (
	"iter"
	"slices"
	"strings"

	"plexus/api"
	"plexus/disk"
	"plexus/num"
	"plexus/pack"
	"plexus/record"
)

// loading is what is kept while it is loaded. Its Seg is the number that the next segment has, if none is missing.
type loading struct {
	kept api.Kept
	over bool // nothing more is loaded
}

// pass goes by the next segment that there is, and loads it, unless all is over.
func (l *loading) pass(d api.Disk, seg int) {
	// It counts whether it is loaded or not: what is written next must not stand behind what is there.
	defer func() { l.kept.Seg = seg + 1 }()
	// One that is missing is not full: what stands behind it is not what was written next.
	if l.over || seg != l.kept.Seg {
		l.over = true
		return
	}
	data, _ := disk.Read(d, Name(seg))
	bodies, end := record.Scan(data)
	for _, body := range bodies {
		if !l.takes(body) {
			l.over = true
			return
		}
	}
	// Behind one that is not full, or is torn, others stand only if something is lost between.
	l.over = len(bodies) != api.SegMost || end != len(data)
}

// takes delivers the transaction that a record is of, and tells whether it may be.
func (l *loading) takes(body []byte) bool {
	t, behind, err := pack.GetTx(body)
	return err == api.OK && len(behind) == 0 && take(&l.kept, t)
}

// segments tells the numbers of those segments on a disk that are asked for, rising.
func segments(d api.Disk, asked func(seg int) bool) iter.Seq[int] {
	return func(yield func(int) bool) {
		for _, seg := range numbers(disk.Names(d)) {
			if asked(seg) && !yield(seg) {
				return
			}
		}
	}
}

// numbers answers the numbers of those names that are segments', rising: names rise by their bytes, log10 ahead of log2.
func numbers(names []string) []int {
	var l []int
	for _, name := range names {
		digits, ok := strings.CutPrefix(name, logName)
		// A number has one text, so that no two names are of one segment.
		if seg, isNumber := num.Parse(digits); ok && isNumber && isSegment(seg) {
			l = append(l, seg)
		}
	}
	slices.Sort(l)
	return l
}

// isSegment tells whether a segment may have that number.
func isSegment(seg int) bool {
	return seg >= 0 && seg <= segMost
}
