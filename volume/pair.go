package volume

import (
	"iter"
	"slices"

	"stevedore/api"
)

func hasVolume(c api.Claim) bool { return c.Volume != "" }

func isFree(v api.Volume) bool { return v.Claim == "" }

// suits asks whether v is of c's class and not smaller than c. Plans and Apply both ask it, so that a plan may be applied.
func suits(v api.Volume, c api.Claim) bool { return v.Class == c.Class && v.Size >= c.Size }

// done is s with something done to the claim and the volume of each pick, in turn: ErrNone, if one of the two is not there; ErrArg, if it may not be done.
func done(s api.State, picks iter.Seq2[int, api.Pick], do func(c *api.Claim, v *api.Volume) bool) (api.State, api.Errno) {
	s = own(s)
	claims, volumes := tableOf(s.Claims, claimName), tableOf(s.Volumes, volumeName)
	for _, x := range picks {
		c, v := claims.find(x.Claim), volumes.find(x.Volume)
		if c == nil || v == nil {
			return api.State{}, api.ErrNone
		}
		if !do(c, v) {
			return api.State{}, api.ErrArg
		}
	}
	return s, api.OK
}

// give makes the two each other's, if c may get v.
func give(c *api.Claim, v *api.Volume) bool {
	if hasVolume(*c) || !isFree(*v) || !suits(*v, *c) {
		return false
	}
	c.Volume, v.Claim = v.Name, c.Name
	return true
}

// takeBack leaves both with nothing, if they are each other's.
func takeBack(c *api.Claim, v *api.Volume) bool {
	if c.Volume != v.Name || v.Claim != c.Name {
		return false
	}
	c.Volume, v.Claim = "", ""
	return true
}

// own is s with lists of its own, so that nobody's state changes with another one.
func own(s api.State) api.State {
	return api.State{
		Pods:    slices.Clone(s.Pods),
		Nodes:   slices.Clone(s.Nodes),
		Volumes: slices.Clone(s.Volumes),
		Claims:  slices.Clone(s.Claims),
		Classes: slices.Clone(s.Classes),
		Budgets: slices.Clone(s.Budgets),
	}
}
