package cache

import (
	"maps"

	"stevedore/api"
)

// placed is what is assumed of a pod: the node where it was placed, the volumes that its claims get there, and till when. Picks are never written into, so that caches may share them.
type placed struct {
	node  string
	picks []api.Pick
	till  int // 0, till it is armed: from then on it is above 0
}

// isOver asks whether what is assumed has expired at that moment.
func (a placed) isOver(now int) bool { return a.till != 0 && a.till <= now }

// place does to what is told what is assumed of a pod.
func (k known) place(pod string, a placed) {
	k.pods.edit(pod, func(p *api.Pod) { p.Node, p.Hope = a.node, "" })
	for _, x := range a.picks {
		k.give(x)
	}
}

// give makes a claim and a volume each other's, if both are there and free. Sizes and classes are not asked: a pick was right when it was made, and is judged by the store.
func (k known) give(x api.Pick) {
	c, isClaim := k.claims.find(x.Claim)
	v, isVolume := k.volumes.find(x.Volume)
	if !isClaim || !isVolume || c.Volume != "" || v.Claim != "" {
		return
	}
	k.claims.edit(x.Claim, func(c *api.Claim) { c.Volume = x.Volume })
	k.volumes.edit(x.Volume, func(v *api.Volume) { v.Claim = x.Claim })
}

// release ends what is assumed of pods that are told to be bound, or not known any more.
func (c *Cache) release() {
	maps.DeleteFunc(c.assumed, func(pod string, _ placed) bool {
		p, known := c.known.pods.find(pod)
		return !known || isBound(p)
	})
}

func isBound(p api.Pod) bool { return p.Node != "" }
