package cache_test

import (
	"cmp"
	"maps"
	"slices"

	"stevedore/api"
)

// id is an object's kind and name.
type id struct {
	kind int
	name string
}

// thing is an object as it was told last, and its version.
type thing struct {
	object  api.Object
	version int
}

// guess is what is assumed of a pod.
type guess struct {
	node  string
	picks []api.Pick
	armed bool
	till  int
}

// model is a cache by the chapter's words.
type model struct {
	known   map[id]thing
	counts  map[id]int // of a node's name: changes of the kind that it saw
	assumed map[string]guess
}

func newModel() *model {
	return &model{map[id]thing{}, map[id]int{}, map[string]guess{}}
}

func (m *model) has(kind int, name string) bool {
	_, is := m.known[id{kind, name}]
	return is
}

// at is where a pod is known to be bound.
func (m *model) at(pod string) string { return m.known[id{api.KPod, pod}].object.Pod.Node }

func (m *model) Tell(x api.Change) api.Errno {
	kind, name := x.Object.Kind, nameOf(x.Object)
	if !slices.Contains(allKinds(), kind) || name == "" || !slices.Contains([]int{api.Added, api.Changed, api.Removed}, x.Op) {
		return api.ErrArg
	}
	stood := m.at(name)
	if x.Op == api.Removed {
		delete(m.known, id{kind, name})
	} else {
		m.known[id{kind, name}] = thing{alone(kind, x.Object), x.Version}
	}
	if kind == api.KNode {
		m.counts[id{kind, name}]++
	}
	if kind == api.KPod {
		for _, node := range slices.Compact([]string{stood, m.at(name)}) {
			m.counts[id{kind, node}]++
		}
		if m.at(name) != "" || x.Op == api.Removed {
			delete(m.assumed, name)
		}
	}
	return api.OK
}

func (m *model) List(kind int, s api.State, versions, sights []api.Item) api.Errno {
	if !slices.Contains(allKinds(), kind) {
		return api.ErrArg
	}
	maps.DeleteFunc(m.known, func(k id, _ thing) bool { return k.kind == kind })
	for _, o := range objectsOf(s, kind) {
		if nameOf(o) != "" {
			m.known[id{kind, nameOf(o)}] = thing{o, first(versions, nameOf(o))}
		}
	}
	if kind == api.KNode || kind == api.KPod {
		maps.DeleteFunc(m.counts, func(k id, _ int) bool { return k.kind == kind })
		for _, x := range sights {
			m.counts[id{kind, x.Key}] = first(sights, x.Key)
		}
	}
	for pod := range m.assumed {
		if kind == api.KPod && (!m.has(kind, pod) || m.at(pod) != "") {
			delete(m.assumed, pod)
		}
	}
	return api.OK
}

// first is what the first item of a name tells; 0, if none does.
func first(l []api.Item, name string) int {
	for _, x := range l {
		if x.Key == name {
			return x.Seq
		}
	}
	return 0
}

// objectsOf is the objects of a kind that a state has, as they stand there.
func objectsOf(s api.State, kind int) []api.Object {
	var l []api.Object
	switch kind {
	case api.KPod:
		for _, x := range s.Pods {
			l = append(l, api.Object{Kind: kind, Pod: x})
		}
	case api.KNode:
		for _, x := range s.Nodes {
			l = append(l, api.Object{Kind: kind, Node: x})
		}
	case api.KVolume:
		for _, x := range s.Volumes {
			l = append(l, api.Object{Kind: kind, Volume: x})
		}
	case api.KClaim:
		for _, x := range s.Claims {
			l = append(l, api.Object{Kind: kind, Claim: x})
		}
	case api.KClass:
		for _, x := range s.Classes {
			l = append(l, api.Object{Kind: kind, Class: x})
		}
	case api.KBudget:
		for _, x := range s.Budgets {
			l = append(l, api.Object{Kind: kind, Budget: x})
		}
	}
	return l
}

func (m *model) Assume(pod, node string, picks []api.Pick) api.Errno {
	_, is := m.assumed[pod]
	switch {
	case !m.has(api.KPod, pod) || !m.has(api.KNode, node):
		return api.ErrNone
	case m.at(pod) != "":
		return api.ErrBound
	case is:
		return api.ErrAssumed
	}
	m.assumed[pod] = guess{node: node, picks: slices.Clone(picks)}
	return api.OK
}

func (m *model) Arm(pod string, now int) api.Errno {
	g, is := m.assumed[pod]
	switch {
	case now < 0 || now > lastNow:
		return api.ErrArg
	case !is:
		return api.ErrAssumed
	}
	g.armed, g.till = true, now+16
	m.assumed[pod] = g
	return api.OK
}

func (m *model) Forget(pod string) api.Errno {
	if _, is := m.assumed[pod]; !is {
		return api.ErrAssumed
	}
	delete(m.assumed, pod)
	return api.OK
}

func (m *model) Expire(now int) ([]string, api.Errno) {
	if now < 0 || now > lastNow {
		return nil, api.ErrArg
	}
	var l []string
	for _, pod := range m.Assumed() {
		if g := m.assumed[pod]; g.armed && g.till <= now {
			l = append(l, pod)
			delete(m.assumed, pod)
		}
	}
	return l, api.OK
}

func (m *model) Assumed() []string { return slices.Sorted(maps.Keys(m.assumed)) }

func (m *model) Told() api.State {
	var l []api.Object
	for _, x := range m.known {
		l = append(l, x.object)
	}
	slices.SortFunc(l, func(a, b api.Object) int {
		return cmp.Or(cmp.Compare(a.Kind, b.Kind), cmp.Compare(nameOf(a), nameOf(b)))
	})
	return stateOf(l...)
}

func (m *model) Belief() api.State {
	s := m.Told()
	for k, p := range s.Pods {
		if g, is := m.assumed[p.Name]; is {
			s.Pods[k].Node, s.Pods[k].Hope = g.node, ""
			for _, x := range g.picks {
				give(s, x)
			}
		}
	}
	return s
}

// give lets a claim and a volume of s be each other's, if both are there and free.
func give(s api.State, x api.Pick) {
	for k, c := range s.Claims {
		for j, v := range s.Volumes {
			if c.Name == x.Claim && v.Name == x.Volume && c.Volume == "" && v.Claim == "" {
				s.Claims[k].Volume, s.Volumes[j].Claim = v.Name, c.Name
			}
		}
	}
}

func (m *model) Seen(kind int, name string) int { return m.known[id{kind, name}].version }

func (m *model) Sight(node string) int {
	if !m.has(api.KNode, node) {
		return 0
	}
	return m.counts[id{api.KNode, node}] + m.counts[id{api.KPod, node}]
}

func (m *model) Clone() *model {
	return &model{maps.Clone(m.known), maps.Clone(m.counts), maps.Clone(m.assumed)}
}

// lookAtModel is what look tells of a cache that is as the model.
func lookAtModel(m *model) told {
	x := told{
		belief: m.Belief(), told: m.Told(), assumed: m.Assumed(), seen: map[string]int{}, sight: map[string]int{},
		ofNodes: map[string]int{}, ofPods: map[string]int{}, over: map[int][]string{}, e: map[string]api.Errno{},
	}
	for _, name := range someNames() {
		for _, kind := range append(allKinds(), noKinds()...) {
			x.seen[seenKey(kind, name)] = m.Seen(kind, name)
		}
		x.sight[name] = m.Sight(name)
		if name != "" {
			x.ofNodes[name], x.ofPods[name] = m.counts[id{api.KNode, name}], m.counts[id{api.KPod, name}]
		}
	}
	for _, node := range []string{"m", "n", "not-there"} {
		d := m.Clone()
		for _, name := range someNames() {
			x.e[name+" "+node] = d.Assume(name, node, nil)
		}
	}
	late := m.Clone()
	for _, now := range moments() {
		if l, _ := late.Expire(now); len(l) > 0 {
			x.over[now] = l
		}
	}
	free := m.Clone()
	for _, name := range someNames() {
		free.Tell(change(0, api.Added, bare(api.KClaim, name)))
		free.Tell(change(0, api.Added, bare(api.KVolume, name)))
	}
	x.free = free.Belief()
	return x
}
