// Package fresh copies what api's types hold into memory of its own. Objects that calls make keep nothing of what they were handed, and hand out nothing of what they keep (DOC.md, rule 4): the layers that make such objects share these copies.
package fresh

import (
	"slices"

	"stevedore/api"
)

// State is s in memory of its own.
func State(s api.State) api.State {
	return api.State{
		Pods:    each(s.Pods, pod),
		Nodes:   each(s.Nodes, node),
		Volumes: each(s.Volumes, volume),
		Claims:  flat(s.Claims),
		Classes: flat(s.Classes),
		Budgets: each(s.Budgets, budget),
	}
}

// Object is o in memory of its own, with what it has in members of other kinds, too.
func Object(o api.Object) api.Object {
	o.Pod, o.Node, o.Volume, o.Budget = pod(o.Pod), node(o.Node), volume(o.Volume), budget(o.Budget)
	return o
}

// Changes is l in memory of its own.
func Changes(l []api.Change) []api.Change { return each(l, change) }

func change(c api.Change) api.Change {
	c.Object = Object(c.Object)
	return c
}

func pod(p api.Pod) api.Pod {
	p.Labels, p.Bears, p.Ports, p.Claims = flat(p.Labels), flat(p.Bears), flat(p.Ports), flat(p.Claims)
	p.Asks, p.Prefers = each(p.Asks, req), each(p.Prefers, prefer)
	p.Near, p.Apart, p.Spreads = each(p.Near, term), each(p.Apart, term), each(p.Spreads, spread)
	return p
}

func node(n api.Node) api.Node {
	n.Labels, n.Taints = flat(n.Labels), flat(n.Taints)
	return n
}

func volume(v api.Volume) api.Volume {
	v.Reqs = each(v.Reqs, req)
	return v
}

func budget(b api.Budget) api.Budget {
	b.Reqs = each(b.Reqs, req)
	return b
}

func prefer(p api.Prefer) api.Prefer {
	p.Reqs = each(p.Reqs, req)
	return p
}

func term(t api.Term) api.Term {
	t.Reqs = each(t.Reqs, req)
	return t
}

func spread(s api.Spread) api.Spread {
	s.Reqs = each(s.Reqs, req)
	return s
}

func req(r api.Req) api.Req {
	r.Values = flat(r.Values)
	return r
}

// each is a list of copies. One without members is nil, so that nothing hangs on how it was handed in.
func each[T any](l []T, one func(T) T) []T {
	own := flat(l)
	for i, x := range own {
		own[i] = one(x)
	}
	return own
}

// flat is a list of its own, of members that hold no lists themselves. One without members is nil, as in each.
func flat[T any](l []T) []T {
	if len(l) == 0 {
		return nil
	}
	return slices.Clone(l)
}
