package store_test

import (
	"fmt"
	"reflect"
	"slices"
	"strings"
	"testing"

	"stevedore/api"
	"stevedore/store"
)

// same holds two answers against each other (an empty list is as none).
func same(t *testing.T, what string, got, want any) {
	t.Helper()
	if reflect.DeepEqual(got, want) {
		return
	}
	if g, w := fmt.Sprintf("%+v", got), fmt.Sprintf("%+v", want); g != w {
		t.Errorf("%s: %s, want %s", what, g, w)
	}
}

func allKinds() []int {
	return []int{api.KPod, api.KNode, api.KVolume, api.KClaim, api.KClass, api.KBudget}
}

func noKinds() []int { return []int{0, 7, -1, 1 << 40, -1 << 63} }

func podOf(p api.Pod) api.Object { return api.Object{Kind: api.KPod, Pod: p} }

func nodeOf(n api.Node) api.Object { return api.Object{Kind: api.KNode, Node: n} }

func volumeOf(v api.Volume) api.Object { return api.Object{Kind: api.KVolume, Volume: v} }

func claimOf(c api.Claim) api.Object { return api.Object{Kind: api.KClaim, Claim: c} }

// bare is a right object with no more than a name (and a class, where there must be one).
func bare(kind int, name string) api.Object {
	return map[int]api.Object{
		api.KPod:    podOf(api.Pod{Name: name}),
		api.KNode:   nodeOf(api.Node{Name: name}),
		api.KVolume: volumeOf(api.Volume{Name: name, Class: "k"}),
		api.KClaim:  claimOf(api.Claim{Name: name, Class: "k"}),
		api.KClass:  {Kind: api.KClass, Class: api.Class{Name: name}},
		api.KBudget: {Kind: api.KBudget, Budget: api.Budget{Name: name}},
	}[kind]
}

func asks(key, value string) []api.Req {
	return []api.Req{{Key: key, Op: api.OpIn, Values: []string{value}}}
}

// full is a right object with something in each field that users may write.
func full(kind int, name string) api.Object {
	l := []api.Label{{Key: "app", Value: "x"}, {Key: "zone", Value: "1"}}
	terms := func() []api.Term { return []api.Term{{Key: "zone", Reqs: asks("app", "q")}} }
	return map[int]api.Object{
		api.KPod: podOf(api.Pod{
			Name: name, Priority: 3, Labels: l, Want: api.Res{CPU: 1, Mem: 2, Disk: 3}, Bears: []api.Bear{{Key: "gpu", Any: true}},
			Asks: asks("zone", "1"), Prefers: []api.Prefer{{Reqs: asks("zone", "2"), Weight: 5}}, Ports: []int{80, 443},
			Near: terms(), Apart: terms(), Spreads: []api.Spread{{Key: "zone", Skew: 1, Least: 2, Reqs: asks("app", "q")}}, Claims: []string{"c", "d"},
		}),
		api.KNode:   nodeOf(api.Node{Name: name, Labels: l, Taints: []api.Taint{{Key: "gpu", Effect: api.EffectKeep}}, Off: true, Give: api.Res{CPU: 4, Mem: 5, Disk: 6}, Pods: 7, Disks: 8}),
		api.KVolume: volumeOf(api.Volume{Name: name, Size: 9, Class: "k", Reqs: asks("zone", "1")}),
		api.KClaim:  claimOf(api.Claim{Name: name, Size: 8, Class: "k"}),
		api.KClass:  {Kind: api.KClass, Class: api.Class{Name: name, Wait: true}},
		api.KBudget: {Kind: api.KBudget, Budget: api.Budget{Name: name, Reqs: asks("app", "x"), Least: 2}},
	}[kind]
}

// node takes pods and claims, and is in that zone.
func node(name, zone string) api.Node {
	return api.Node{Name: name, Labels: []api.Label{{Key: "zone", Value: zone}}, Pods: 9, Disks: 9, Give: api.Res{CPU: 1000, Mem: 1000, Disk: 1000}}
}

// sample has three nodes, two pods that wait and three that are bound, three claims that wait and two volumes in use.
func sample() api.State {
	return api.State{
		Nodes: []api.Node{node("m", "1"), node("n", "1"), node("o", "2")},
		Pods: []api.Pod{
			{Name: "a", Priority: 1, Node: "n"},
			{Name: "b", Priority: 2, Node: "n"},
			{Name: "c", Priority: 1, Node: "o"},
			{Name: "p", Priority: 2, Claims: []string{"ca", "cb"}},
			{Name: "q", Priority: 9, Hope: "o"},
		},
		Claims: []api.Claim{
			{Name: "ca", Size: 1, Class: "k"}, {Name: "cb", Size: 2, Class: "k"}, {Name: "cc", Size: 3, Class: "k"},
			{Name: "cx", Size: 4, Class: "k", Volume: "vx"}, {Name: "cy", Size: 5, Class: "k", Volume: "vy"},
		},
		Volumes: []api.Volume{
			{Name: "va", Size: 1, Class: "k"}, {Name: "vb", Size: 2, Class: "k"}, {Name: "vc", Size: 3, Class: "k"},
			{Name: "vx", Size: 4, Class: "k", Claim: "cx"}, {Name: "vy", Size: 5, Class: "k", Claim: "cy"},
		},
		Classes: []api.Class{{Name: "k", Wait: true}},
		Budgets: []api.Budget{{Name: "g", Least: 1}},
	}
}

// opened is a store of that state.
func opened(t *testing.T, s api.State) *store.Store {
	t.Helper()
	x, e := store.New(s)
	if e != api.OK || x == nil {
		t.Fatalf("New: %d", e)
	}
	return x
}

// seen is all that calls can tell of a store, for kinds that there are and for others.
type seen struct {
	state    api.State
	version  int
	log      []api.Change
	versions map[int][]api.Item
	sights   map[int][]api.Item
	sight    map[string]int
	got      map[string]string
}

// names is the names that tests ask for.
func names() []string {
	return []string{"", "a", "b", "c", "p", "q", "m", "n", "o", "ca", "cb", "cc", "cx", "cy", "va", "vb", "vc", "vx", "vy", "k", "g", "new", "not-there"}
}

func look(x *store.Store) seen {
	s := seen{x.State(), x.Version(), x.Log(-1), map[int][]api.Item{}, map[int][]api.Item{}, map[string]int{}, map[string]string{}}
	for _, kind := range append(allKinds(), noKinds()...) {
		s.versions[kind], s.sights[kind] = x.Versions(kind), x.Sights(kind)
		for _, name := range names() {
			o, v, e := x.Get(kind, name)
			s.got[fmt.Sprint(kind, " ", name)] = fmt.Sprintf("%+v %d %d", o, v, int(e))
		}
	}
	for _, name := range names() {
		s.sight[name] = x.Sight(name)
	}
	return s
}

// refused asks for an error, for no version with it, and that nothing is changed.
func refused(t *testing.T, what string, x *store.Store, do func() (int, api.Errno), want api.Errno) {
	t.Helper()
	was := look(x)
	n, e := do()
	same(t, what, []int{n, int(e)}, []int{0, int(want)})
	same(t, what+": what is there then", look(x), was)
}

// taken asks for no error, and for just those lines more in the log, the last one's version being the answer.
func taken(t *testing.T, what string, x *store.Store, do func() (int, api.Errno), want ...string) {
	t.Helper()
	from := x.Version()
	n, e := do()
	same(t, what, []int{n, int(e), x.Version()}, []int{from + len(want), 0, from + len(want)})
	for k := range want {
		want[k] = fmt.Sprint(from+k+1, " ", want[k])
	}
	same(t, what+": log", lines(x.Log(from)), want)
}

// lines is changes as short texts: the version, + ~ or -, the kind, the name, @ and a pod's node, ? and its hope, = and a claim's volume or a volume's claim.
func lines(log []api.Change) []string {
	var out []string
	for _, c := range log {
		o := c.Object
		s := fmt.Sprint(c.Version, " ", strings.Split("0+~-", "")[c.Op], " ")
		switch o.Kind {
		case api.KPod:
			s += "pod " + o.Pod.Name + marked("@", o.Pod.Node) + marked("?", o.Pod.Hope)
		case api.KNode:
			s += "node " + o.Node.Name
		case api.KVolume:
			s += "volume " + o.Volume.Name + marked("=", o.Volume.Claim)
		case api.KClaim:
			s += "claim " + o.Claim.Name + marked("=", o.Claim.Volume)
		case api.KClass:
			s += "class " + o.Class.Name
		case api.KBudget:
			s += "budget " + o.Budget.Name
		}
		out = append(out, s)
	}
	return out
}

func marked(mark, name string) string {
	if name == "" {
		return ""
	}
	return " " + mark + name
}

// put and the others are calls that are not made yet.
func put(x *store.Store, o api.Object) func() (int, api.Errno) {
	return func() (int, api.Errno) { return x.Put(o) }
}

func del(x *store.Store, kind int, name string) func() (int, api.Errno) {
	return func() (int, api.Errno) { return x.Delete(kind, name) }
}

func bind(x *store.Store, b api.Bind) func() (int, api.Errno) {
	return func() (int, api.Errno) { return x.Bind(b) }
}

func hope(x *store.Store, pod, node string) func() (int, api.Errno) {
	return func() (int, api.Errno) { return x.Hope(pod, node) }
}

func evict(x *store.Store, e api.Evict) func() (int, api.Errno) {
	return func() (int, api.Errno) { return x.Evict(e) }
}

// asSeen is a bind with what is there to be seen now.
func asSeen(x *store.Store, pod, node string, picks ...string) api.Bind {
	_, v, _ := x.Get(api.KPod, pod)
	return api.Bind{Pod: pod, Node: node, PodSeen: v, NodeSeen: x.Sight(node), Picks: pairs(picks...)}
}

// pairs is picks of a claim and a volume each.
func pairs(names ...string) []api.Pick {
	var l []api.Pick
	for k := 0; k < len(names); k += 2 {
		l = append(l, api.Pick{Claim: names[k], Volume: names[k+1]})
	}
	return l
}

// outOf is an eviction with what is there to be seen now.
func outOf(x *store.Store, who, node string, victims ...string) api.Evict {
	return api.Evict{For: who, Node: node, NodeSeen: x.Sight(node), Victims: victims}
}

// podIn is the pod of that name in a state.
func podIn(s api.State, name string) (api.Pod, bool) {
	at := slices.IndexFunc(s.Pods, func(p api.Pod) bool { return p.Name == name })
	if at < 0 {
		return api.Pod{}, false
	}
	return s.Pods[at], true
}
