package object

import (
	"cmp"
	"slices"

	"stevedore/api"
	"stevedore/label"
	"stevedore/quant"
)

const (
	most    = 1000  // of a skew, a least, a number of pods or disks
	maxPort = 65535 // ports lie from 1 to it
)

func within(n, from, to int) bool { return n >= from && n <= to }

// isAmount asks for an amount just as it stands: one that counts as itself.
func isAmount(a int) bool { return quant.Clamp(a) == a }

func areAmounts(r api.Res) bool { return isAmount(r.CPU) && isAmount(r.Mem) && isAmount(r.Disk) }

func isNameOrNone(s string) bool { return s == "" || label.Word(s) }

func areReqs(l []api.Req) bool { return label.CheckReqs(l) == api.OK }

func isPrefer(p api.Prefer) bool { return areReqs(p.Reqs) && within(p.Weight, 1, api.MaxWeight) }

func isPort(p int) bool { return within(p, 1, maxPort) }

func isTerm(t api.Term) bool { return areReqs(t.Reqs) && label.Word(t.Key) }

func isSpread(s api.Spread) bool {
	return label.Word(s.Key) && within(s.Skew, 1, most) && within(s.Least, 0, most) && areReqs(s.Reqs)
}

// rightItems asks for a list in an object: at most MaxItems, all right.
func rightItems[T any](l []T, right func(T) bool) bool {
	return len(l) <= api.MaxItems && allRight(l, right)
}

func allRight[T any](l []T, right func(T) bool) bool {
	return !slices.ContainsFunc(l, func(x T) bool { return !right(x) })
}

// rising asks whether each one is above the one ahead of it, so that each stands once.
func rising[T cmp.Ordered](l []T) bool {
	return risingBy(l, func(x T) T { return x })
}

// risingBy asks whether what by tells of each one is above what it tells of the one ahead of it.
func risingBy[T any, O cmp.Ordered](l []T, by func(T) O) bool {
	for i := 1; i < len(l); i++ {
		if by(l[i-1]) >= by(l[i]) {
			return false
		}
	}
	return true
}
