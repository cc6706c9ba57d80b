package store

import (
	"stevedore/api"
	"stevedore/object"
)

// All that happens to a store goes through set, drop and tell. The lists in a state or in an object that the store has are never written into: a change puts new ones in their place, so that the log may hold what the state holds.

// asUsersMay is o with what users may not write as it was (of a new object: empty); the members of other kinds are empty in both.
func asUsersMay(o, was api.Object) api.Object {
	o.Pod.Node, o.Pod.Hope = was.Pod.Node, was.Pod.Hope
	o.Volume.Claim = was.Volume.Claim
	o.Claim.Volume = was.Claim.Volume
	return o
}

// set adds o, or puts it in the place of the one of its name: the new version, or what object.Put has against it.
func (t *Store) set(o api.Object) (int, api.Errno) {
	next, was, e := object.Put(t.state, o)
	if e != api.OK {
		return 0, e
	}
	t.state = next
	if was {
		return t.tell(api.Changed, o), api.OK
	}
	return t.tell(api.Added, o), api.OK
}

// change does something to an object that is there, and answers the new version. Nothing can be against it: only names of objects that are there are written, or nothing.
func (t *Store) change(kind int, name string, how func(o *api.Object)) int {
	o, _ := object.Get(t.state, kind, name)
	how(&o)
	version, _ := t.set(o)
	return version
}

// drop removes an object that is there, and answers the new version.
func (t *Store) drop(o api.Object) int {
	t.state, _ = object.Remove(t.state, o.Kind, object.Name(o))
	return t.tell(api.Removed, o)
}

// release parts an object that goes from those that name it, so that none is left alone: a volume or claim from its other one, a node from its pods.
func (t *Store) release(o api.Object) {
	switch {
	case o.Claim.Volume != "":
		t.change(api.KVolume, o.Claim.Volume, func(v *api.Object) { v.Volume.Claim = "" })
	case o.Volume.Claim != "":
		t.change(api.KClaim, o.Volume.Claim, func(c *api.Object) { c.Claim.Volume = "" })
	case o.Kind == api.KNode:
		for _, p := range object.All(t.state, api.KPod) {
			if p.Pod.Node == o.Node.Name {
				t.drop(p)
			}
		}
	}
}

// tell writes down what has happened to o, and answers the new version.
func (t *Store) tell(op int, o api.Object) int {
	version, k := len(t.log)+1, key{o.Kind, object.Name(o)}
	t.log = append(t.log, api.Change{Version: version, Op: op, Object: o})
	t.versions[k] = version
	if op == api.Removed {
		delete(t.versions, k)
	}
	if o.Kind == api.KNode {
		t.sights[k]++
	}
	// A bound pod stays where it is till it is removed, so no change of one is seen from two nodes.
	if o.Kind == api.KPod && isBound(o.Pod) {
		t.sights[key{api.KPod, o.Pod.Node}]++
	}
	return version
}
