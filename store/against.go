package store

import (
	"slices"

	"stevedore/api"
	"stevedore/feasible"
	"stevedore/object"
)

func isBound(p api.Pod) bool { return p.Node != "" }

// wellPlaced asks whether each pod of a right state that is bound stands on a node that is there, and hopes for nothing any more.
func wellPlaced(s api.State) bool {
	for _, p := range s.Pods {
		if _, there := object.Get(s, api.KNode, p.Node); isBound(p) && (!there || p.Hope != "") {
			return false
		}
	}
	return true
}

// wellPaired asks whether the claims and volumes of a right state fit together: each pair of a claim and a volume is told by both.
func wellPaired(s api.State) bool {
	told := make(map[api.Pick]int)
	for _, c := range s.Claims {
		if c.Volume != "" {
			told[api.Pick{Claim: c.Name, Volume: c.Volume}]++
		}
	}
	for _, v := range s.Volumes {
		if v.Claim != "" {
			told[api.Pick{Claim: v.Claim, Volume: v.Name}]++
		}
	}
	for _, n := range told {
		if n != 2 {
			return false
		}
	}
	return true
}

// find is an object that is there, and its version: ErrNil, ErrArg (no such kind), ErrNone.
func (t *Store) find(kind int, name string) (api.Object, int, api.Errno) {
	if !t.made() {
		return api.Object{}, 0, api.ErrNil
	}
	if kind < api.KPod || kind > api.KBudget {
		return api.Object{}, 0, api.ErrArg
	}
	o, there := object.Get(t.state, kind, name)
	if !there {
		return api.Object{}, 0, api.ErrNone
	}
	return o, t.versions[key{kind, name}], api.OK
}

// has asks whether there is such an object.
func (t *Store) has(kind int, name string) bool {
	_, there := object.Get(t.state, kind, name)
	return there
}

// pod is the pod of that name, and whether there is one.
func (t *Store) pod(name string) (api.Pod, bool) {
	o, there := object.Get(t.state, api.KPod, name)
	return o.Pod, there
}

// againstBind is the first thing that is against a bind.
func (t *Store) againstBind(b api.Bind) api.Errno {
	p, there := t.pod(b.Pod)
	if !there || !t.has(api.KNode, b.Node) {
		return api.ErrNone
	}
	if isBound(p) {
		return api.ErrBound
	}
	if b.PodSeen != t.versions[key{api.KPod, b.Pod}] || b.NodeSeen != t.Sight(b.Node) {
		return api.ErrConflict
	}
	if why, picks := feasible.Check(t.state, p, b.Node); why != 0 || !slices.Equal(picks, b.Picks) {
		return api.ErrUnfit
	}
	return api.OK
}

// againstEvict is the first thing that is against an eviction.
func (t *Store) againstEvict(e api.Evict) api.Errno {
	p, there := t.pod(e.For)
	if !there || !t.has(api.KNode, e.Node) {
		return api.ErrNone
	}
	if slices.ContainsFunc(e.Victims, func(name string) bool { return !t.has(api.KPod, name) }) {
		return api.ErrNone
	}
	if len(e.Victims) == 0 || anyTwice(e.Victims) {
		return api.ErrArg
	}
	if e.NodeSeen != t.Sight(e.Node) {
		return api.ErrConflict
	}
	stays := func(name string) bool {
		v, _ := t.pod(name)
		return v.Node != e.Node || v.Priority >= p.Priority
	}
	if isBound(p) || slices.ContainsFunc(e.Victims, stays) {
		return api.ErrVictim
	}
	return api.OK
}

// anyTwice asks whether one of the names stands twice.
func anyTwice(names []string) bool {
	sorted := slices.Sorted(slices.Values(names))
	return len(slices.Compact(sorted)) < len(names)
}
