package pack

import (
	"plexus/api"
	"plexus/ops"
	"plexus/roster"
	"plexus/stamp"
	"plexus/store"
	"plexus/vec"
)

// segMost is the greatest number of a segment.
const segMost = 1 << 20

// CheckBase tells whether a base may be.
func CheckBase(x api.Base) bool {
	numbers := within(x.Self, 1, api.MaxPeers) && within(x.State, api.Fresh, api.Retired) && within(x.Boot, 0, api.MaxBoot) && within(x.Time, 0, api.MaxTime)
	peers := roster.Check(x.Joined) && roster.Check(x.Left) && roster.Check(x.Heirs)
	return numbers && peers && vec.Check(x.Vec) && isCut(x.Cut, x.Vec) && stamp.Check(x.Stamp) && store.Check(x.Store)
}

// checkKept tells whether what a disk keeps may be.
func checkKept(k api.Kept) bool {
	return CheckBase(k.Base) && isCut(k.Pruned, k.Base.Vec) && within(k.Seg, 0, segMost) && checkLog(k.Log, k.Base.Vec, k.Pruned)
}

// checkLog tells whether a log may have these transactions, where v was delivered, and what pruned has was taken out of it. How many they may be, no other list may be either: that is asked where it is put, and got.
func checkLog(l []api.Tx, v api.Vec, pruned api.Vec) bool {
	named := map[api.Dot]struct{}{}
	for _, t := range l {
		if !ops.CheckTx(t) || !vec.Has(v, t.Dot) || vec.Has(pruned, t.Dot) {
			return false
		}
		named[t.Dot] = struct{}{}
	}
	// One that is there twice has one name.
	return len(named) == len(l)
}

// isCut tells whether a vector may be a cut of what was delivered.
func isCut(cut api.Vec, delivered api.Vec) bool {
	return vec.Check(cut) && vec.Leq(cut, delivered)
}

// within tells whether a number lies between two others, or is one of them.
func within(n int, least int, most int) bool {
	return n >= least && n <= most
}
