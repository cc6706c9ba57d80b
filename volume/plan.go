package volume

import (
	"cmp"
	"slices"
	"strings"

	"stevedore/api"
	"stevedore/label"
)

// plan is what is decided so far for a pod on a node.
type plan struct {
	labels  []api.Label // the node's
	claims  table[api.Claim]
	volumes table[api.Volume]
	classes table[api.Class]
	left    shelf
	picks   []api.Pick
}

func planOf(labels []api.Label, s api.State) plan {
	x := plan{
		labels:  labels,
		claims:  tableOf(s.Claims, claimName),
		volumes: tableOf(s.Volumes, volumeName),
		classes: tableOf(s.Classes, className),
	}
	for _, v := range x.volumes.all() {
		if isFree(v) && label.Match(labels, v.Reqs) {
			x.left = append(x.left, v)
		}
	}
	return x
}

// add decides for the claim of that name: why not, or 0.
func (x *plan) add(name string) int {
	c := x.claims.find(name)
	switch {
	case c == nil:
		return api.WhyClaim
	case hasVolume(*c):
		return x.keep(*c)
	case !x.waits(*c):
		return api.WhyClaim
	}
	return x.pick(*c)
}

// keep asks whether a claim's own volume can be had on the node.
func (x *plan) keep(c api.Claim) int {
	v := x.volumes.find(c.Volume)
	if v == nil || v.Claim != c.Name {
		return api.WhyClaim
	}
	if !label.Match(x.labels, v.Reqs) {
		return api.WhyVolume
	}
	return 0
}

// waits asks whether a claim that has no volume is to get one when its pod is bound.
func (x *plan) waits(c api.Claim) bool {
	class := x.classes.find(c.Class)
	return class != nil && class.Wait
}

// pick takes the smallest volume that suits a claim off the shelf.
func (x *plan) pick(c api.Claim) int {
	at, found := smallest(x.left.suiting(c), x.left.compare)
	if !found {
		return api.WhyVolume
	}
	x.picks = append(x.picks, api.Pick{Claim: c.Name, Volume: x.left[at].Name})
	x.left = slices.Delete(x.left, at, at+1)
	return 0
}

// shelf is the volumes that can be had on a node, free and not picked yet; they are told by their places.
type shelf []api.Volume

// suiting is the places of those that a claim may get.
func (l shelf) suiting(c api.Claim) []int {
	var out []int
	for at, v := range l {
		if suits(v, c) {
			out = append(out, at)
		}
	}
	return out
}

// compare puts the smaller one first, of one size the one whose name is less.
func (l shelf) compare(a, b int) int {
	v, w := l[a], l[b]
	return cmp.Or(cmp.Compare(v.Size, w.Size), strings.Compare(v.Name, w.Name))
}

// smallest is the member of l that a comparison puts first, and whether there is one.
func smallest[T any](l []T, compare func(a, b T) int) (T, bool) {
	if len(l) == 0 {
		var none T
		return none, false
	}
	return slices.MinFunc(l, compare), true
}
