package store_test

import (
	"maps"
	"slices"

	"stevedore/api"
	"stevedore/feasible"
	"stevedore/object"
)

// id is an object's kind and name.
type id struct {
	kind int
	name string
}

// model is the authority by the chapter's words: a first state, what is there now, and the log, of which all else is told.
type model struct {
	first api.State
	now   map[id]api.Object
	log   []api.Change
}

func modelOf(s api.State) *model {
	m := &model{first: s, now: map[id]api.Object{}}
	for _, kind := range allKinds() {
		for _, o := range object.All(s, kind) {
			m.now[id{kind, object.Name(o)}] = o
		}
	}
	return m
}

func (m *model) has(kind int, name string) bool {
	_, is := m.now[id{kind, name}]
	return is
}

// namesOf is who there is of a kind, rising.
func (m *model) namesOf(kind int) []string {
	var l []string
	for k := range m.now {
		if k.kind == kind {
			l = append(l, k.name)
		}
	}
	slices.Sort(l)
	return l
}

func (m *model) state() api.State {
	var l []api.Object
	for _, kind := range allKinds() {
		for _, name := range m.namesOf(kind) {
			l = append(l, m.now[id{kind, name}])
		}
	}
	return stateOf(l...)
}

// happens writes down a change.
func (m *model) happens(op int, o api.Object) {
	m.log = append(m.log, api.Change{Version: len(m.log) + 1, Op: op, Object: o})
	m.now[id{o.Kind, object.Name(o)}] = o
	if op == api.Removed {
		delete(m.now, id{o.Kind, object.Name(o)})
	}
}

// version is that of the last change of an object that is there.
func (m *model) version(kind int, name string) int {
	if !m.has(kind, name) {
		return 0
	}
	last := 0
	for _, c := range m.log {
		if c.Object.Kind == kind && object.Name(c.Object) == name {
			last = c.Version
		}
	}
	return last
}

// sights counts, for each name of a node, the changes of the node, and those of pods that stood there ahead of the change or stand there behind it.
func (m *model) sights() (ofNodes, ofPods map[string]int) {
	ofNodes, ofPods = map[string]int{}, map[string]int{}
	where := map[string]string{}
	for _, p := range m.first.Pods {
		where[p.Name] = p.Node
	}
	for _, c := range m.log {
		switch c.Object.Kind {
		case api.KNode:
			ofNodes[c.Object.Node.Name]++
		case api.KPod:
			p := c.Object.Pod
			ahead, behind := where[p.Name], p.Node
			if c.Op == api.Removed {
				behind = ""
			}
			for _, n := range slices.Compact([]string{ahead, behind}) {
				if n != "" {
					ofPods[n]++
				}
			}
			where[p.Name] = behind
		}
	}
	return ofNodes, ofPods
}

func (m *model) sight(node string) int {
	if !m.has(api.KNode, node) {
		return 0
	}
	ofNodes, ofPods := m.sights()
	return ofNodes[node] + ofPods[node]
}

// items is counts as a list, rising by name.
func items(counts map[string]int) []api.Item {
	var l []api.Item
	for _, name := range slices.Sorted(maps.Keys(counts)) {
		l = append(l, api.Item{Key: name, Seq: counts[name]})
	}
	return l
}

func (m *model) put(o api.Object) (int, api.Errno) {
	if e := object.Check(o); e != api.OK {
		return 0, e
	}
	was, is := m.now[id{o.Kind, object.Name(o)}]
	if !is && len(m.namesOf(o.Kind)) >= 256 {
		return 0, api.ErrLong
	}
	switch o.Kind {
	case api.KPod:
		o.Pod.Node, o.Pod.Hope = was.Pod.Node, was.Pod.Hope
	case api.KVolume:
		o.Volume.Claim = was.Volume.Claim
	case api.KClaim:
		o.Claim.Volume = was.Claim.Volume
	}
	if is {
		m.happens(api.Changed, o)
	} else {
		m.happens(api.Added, o)
	}
	return len(m.log), api.OK
}

func (m *model) delete(kind int, name string) (int, api.Errno) {
	if !slices.Contains(allKinds(), kind) {
		return 0, api.ErrArg
	}
	o, is := m.now[id{kind, name}]
	if !is {
		return 0, api.ErrNone
	}
	switch {
	case kind == api.KClaim && o.Claim.Volume != "":
		v := m.now[id{api.KVolume, o.Claim.Volume}]
		v.Volume.Claim = ""
		m.happens(api.Changed, v)
	case kind == api.KVolume && o.Volume.Claim != "":
		c := m.now[id{api.KClaim, o.Volume.Claim}]
		c.Claim.Volume = ""
		m.happens(api.Changed, c)
	case kind == api.KNode:
		for _, pod := range m.namesOf(api.KPod) {
			if p := m.now[id{api.KPod, pod}]; p.Pod.Node == name {
				m.happens(api.Removed, p)
			}
		}
	}
	m.happens(api.Removed, o)
	return len(m.log), api.OK
}

func (m *model) bind(b api.Bind) (int, api.Errno) {
	p, is := m.now[id{api.KPod, b.Pod}]
	switch {
	case !is || !m.has(api.KNode, b.Node):
		return 0, api.ErrNone
	case p.Pod.Node != "":
		return 0, api.ErrBound
	case b.PodSeen != m.version(api.KPod, b.Pod) || b.NodeSeen != m.sight(b.Node):
		return 0, api.ErrConflict
	}
	why, picks := feasible.Check(m.state(), p.Pod, b.Node)
	if why != 0 || len(picks) != len(b.Picks) {
		return 0, api.ErrUnfit
	}
	for k := range picks {
		if picks[k] != b.Picks[k] {
			return 0, api.ErrUnfit
		}
	}
	for _, x := range picks {
		c, v := m.now[id{api.KClaim, x.Claim}], m.now[id{api.KVolume, x.Volume}]
		c.Claim.Volume, v.Volume.Claim = x.Volume, x.Claim
		m.happens(api.Changed, c)
		m.happens(api.Changed, v)
	}
	p.Pod.Node, p.Pod.Hope = b.Node, ""
	m.happens(api.Changed, p)
	return len(m.log), api.OK
}

func (m *model) hope(pod, node string) (int, api.Errno) {
	p, is := m.now[id{api.KPod, pod}]
	switch {
	case !is || node != "" && !m.has(api.KNode, node):
		return 0, api.ErrNone
	case p.Pod.Node != "":
		return 0, api.ErrBound
	}
	p.Pod.Hope = node
	m.happens(api.Changed, p)
	return len(m.log), api.OK
}

func (m *model) evict(e api.Evict) (int, api.Errno) {
	if !m.has(api.KPod, e.For) || !m.has(api.KNode, e.Node) {
		return 0, api.ErrNone
	}
	times := map[string]int{}
	for _, v := range e.Victims {
		if times[v]++; !m.has(api.KPod, v) {
			return 0, api.ErrNone
		}
	}
	switch {
	case len(e.Victims) == 0 || len(times) < len(e.Victims):
		return 0, api.ErrArg
	case e.NodeSeen != m.sight(e.Node):
		return 0, api.ErrConflict
	case m.now[id{api.KPod, e.For}].Pod.Node != "":
		return 0, api.ErrVictim
	}
	for _, v := range e.Victims {
		if p := m.now[id{api.KPod, v}].Pod; p.Node != e.Node || p.Priority >= m.now[id{api.KPod, e.For}].Pod.Priority {
			return 0, api.ErrVictim
		}
	}
	for _, v := range e.Victims {
		m.happens(api.Removed, m.now[id{api.KPod, v}])
	}
	return len(m.log), api.OK
}
