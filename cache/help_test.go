package cache_test

import (
	"fmt"
	"math"
	"reflect"
	"testing"

	"stevedore/api"
	"stevedore/cache"
)

// same holds two answers against each other (an empty list is as none).
func same(t *testing.T, what string, got, want any) {
	t.Helper()
	if reflect.DeepEqual(got, want) {
		return
	}
	if g, w := fmt.Sprintf("%+v", got), fmt.Sprintf("%+v", want); g != w {
		t.Errorf("%s: %s, want %s", what, g, w)
	}
}

// lastNow is the last moment that calls take.
const lastNow = 1<<40 - 64

func allKinds() []int {
	return []int{api.KPod, api.KNode, api.KVolume, api.KClaim, api.KClass, api.KBudget}
}

// noKinds, noOps and noNows are what there is not: what is beside the first and the last one among it.
func noKinds() []int { return []int{0, 7, 8, -1, 1 << 40, math.MinInt, math.MaxInt} }

func noOps() []int { return []int{0, 4, 5, -1, math.MinInt, math.MaxInt} }

func noNows() []int {
	return []int{-1, -2, math.MinInt, lastNow + 1, lastNow + 2, api.MaxTick, api.MaxTick + 1, math.MaxInt - 16, math.MaxInt}
}

func podOf(p api.Pod) api.Object { return api.Object{Kind: api.KPod, Pod: p} }

func nodeOf(n api.Node) api.Object { return api.Object{Kind: api.KNode, Node: n} }

func volumeOf(v api.Volume) api.Object { return api.Object{Kind: api.KVolume, Volume: v} }

func claimOf(c api.Claim) api.Object { return api.Object{Kind: api.KClaim, Claim: c} }

// on is a pod that is told to be bound to a node (empty: to none).
func on(name, node string) api.Object { return podOf(api.Pod{Name: name, Node: node}) }

// bare is an object of that kind with a name alone.
func bare(kind int, name string) api.Object {
	o := api.Object{Kind: kind}
	named(&o, name)
	return o
}

// named gives a name to the member of o's kind.
func named(o *api.Object, name string) {
	switch o.Kind {
	case api.KPod:
		o.Pod.Name = name
	case api.KNode:
		o.Node.Name = name
	case api.KVolume:
		o.Volume.Name = name
	case api.KClaim:
		o.Claim.Name = name
	case api.KClass:
		o.Class.Name = name
	case api.KBudget:
		o.Budget.Name = name
	}
}

// nameOf is the name of the member of o's kind.
func nameOf(o api.Object) string {
	return map[int]string{
		api.KPod: o.Pod.Name, api.KNode: o.Node.Name, api.KVolume: o.Volume.Name,
		api.KClaim: o.Claim.Name, api.KClass: o.Class.Name, api.KBudget: o.Budget.Name,
	}[o.Kind]
}

// full is an object of that kind with something in each field, but that a pod is bound nowhere, and claims and volumes have nothing yet; other gives it other things.
func full(kind int, name string, other int) api.Object {
	var all api.Object
	n := 100 * other
	fill(reflect.ValueOf(&all).Elem(), &n)
	o := alone(kind, all)
	named(&o, name)
	o.Pod.Node, o.Claim.Volume, o.Volume.Claim = "", "", ""
	return o
}

// alone is the member of that kind out of an object that has all.
func alone(kind int, all api.Object) api.Object {
	o := api.Object{Kind: kind}
	switch kind {
	case api.KPod:
		o.Pod = all.Pod
	case api.KNode:
		o.Node = all.Node
	case api.KVolume:
		o.Volume = all.Volume
	case api.KClaim:
		o.Claim = all.Claim
	case api.KClass:
		o.Class = all.Class
	case api.KBudget:
		o.Budget = all.Budget
	}
	return o
}

// fill puts something into each field of v, and two members into each list.
func fill(v reflect.Value, n *int) {
	*n++
	switch v.Kind() {
	case reflect.Struct:
		for k := range v.NumField() {
			fill(v.Field(k), n)
		}
	case reflect.Slice:
		v.Set(reflect.MakeSlice(v.Type(), 2, 2))
		for k := range v.Len() {
			fill(v.Index(k), n)
		}
	case reflect.String:
		v.SetString(fmt.Sprint("s", *n))
	case reflect.Bool:
		v.SetBool(true)
	default:
		v.SetInt(int64(*n))
	}
}

// stateOf has these objects, as they come.
func stateOf(l ...api.Object) api.State {
	var s api.State
	for _, o := range l {
		switch o.Kind {
		case api.KPod:
			s.Pods = append(s.Pods, o.Pod)
		case api.KNode:
			s.Nodes = append(s.Nodes, o.Node)
		case api.KVolume:
			s.Volumes = append(s.Volumes, o.Volume)
		case api.KClaim:
			s.Claims = append(s.Claims, o.Claim)
		case api.KClass:
			s.Classes = append(s.Classes, o.Class)
		case api.KBudget:
			s.Budgets = append(s.Budgets, o.Budget)
		}
	}
	return s
}

// pairs is picks of a claim and a volume each.
func pairs(names ...string) []api.Pick {
	var l []api.Pick
	for k := 0; k < len(names); k += 2 {
		l = append(l, api.Pick{Claim: names[k], Volume: names[k+1]})
	}
	return l
}

// items is names with numbers.
func items(l ...any) []api.Item {
	var out []api.Item
	for k := 0; k < len(l); k += 2 {
		out = append(out, api.Item{Key: l[k].(string), Seq: l[k+1].(int)})
	}
	return out
}

// someNames is what tests ask for, of whatever kind.
func someNames() []string {
	return []string{"a", "b", "m", "n", "o", "p", "q", "r", "c", "d", "e", "v", "w", "x", "k", "g", "Z", "\xff", "n\x00", "not-there", "full", "told", "new", ""}
}

// told is all that calls can tell of a cache.
type told struct {
	belief, told    api.State
	assumed         []string
	seen            map[string]int
	sight           map[string]int
	ofNodes, ofPods map[string]int       // of each name, were there such a node
	over            map[int][]string     // who expires then, and not ahead of it
	free            api.State            // the belief, were all claims and volumes there and free
	e               map[string]api.Errno // what a further Assume of each pod would answer
}

// look is what calls can tell of a cache; what would change it is asked of clones.
func look(c *cache.Cache) told {
	x := told{belief: c.Belief(), told: c.Told(), assumed: c.Assumed(), seen: map[string]int{}, sight: map[string]int{}, over: map[int][]string{}, e: map[string]api.Errno{}}
	for _, name := range someNames() {
		for _, kind := range append(allKinds(), noKinds()...) {
			x.seen[seenKey(kind, name)] = c.Seen(kind, name)
		}
		x.sight[name] = c.Sight(name)
	}
	for _, node := range []string{"m", "n", "not-there"} {
		d := c.Clone()
		for _, name := range someNames() {
			x.e[name+" "+node] = d.Assume(name, node, nil)
		}
	}
	x.ofNodes, x.ofPods = counts(c)
	late := c.Clone()
	for _, now := range moments() {
		if l, _ := late.Expire(now); len(l) > 0 {
			x.over[now] = l
		}
	}
	x.free = allFree(c)
	return x
}

func seenKey(kind int, name string) string { return fmt.Sprint(kind, " ", name) }

// moments is when tests let something expire.
func moments() []int {
	var l []int
	for now := range 80 {
		l = append(l, now)
	}
	for now := lastNow - 40; now <= lastNow; now++ {
		l = append(l, now)
	}
	return l
}

// counts is how many changes each node's name saw of the node, and of pods there, were there such a node.
func counts(c *cache.Cache) (ofNodes, ofPods map[string]int) {
	ofNodes, ofPods = map[string]int{}, map[string]int{}
	nodes, pods := c.Clone(), c.Clone()
	var all []api.Object
	for _, name := range someNames() {
		all = append(all, bare(api.KNode, name))
		nodes.Tell(api.Change{Version: 1, Op: api.Added, Object: bare(api.KNode, name)})
	}
	nodes.List(api.KPod, api.State{}, nil, nil)
	pods.List(api.KNode, stateOf(all...), nil, nil)
	for _, name := range someNames() {
		if name != "" {
			ofNodes[name], ofPods[name] = nodes.Sight(name)-1, pods.Sight(name)
		}
	}
	return ofNodes, ofPods
}

// allFree is the belief, were all claims and volumes there and free.
func allFree(c *cache.Cache) api.State {
	c = c.Clone()
	var all []api.Object
	for _, name := range someNames() {
		all = append(all, bare(api.KClaim, name), bare(api.KVolume, name))
	}
	c.List(api.KClaim, stateOf(all...), nil, nil)
	c.List(api.KVolume, stateOf(all...), nil, nil)
	return c.Belief()
}

func change(version, op int, o api.Object) api.Change {
	return api.Change{Version: version, Op: op, Object: o}
}

func tell(t *testing.T, c *cache.Cache, version, op int, o api.Object) {
	t.Helper()
	same(t, fmt.Sprintf("Tell(%d %d %+v)", version, op, o), int(c.Tell(change(version, op, o))), 0)
}

func list(t *testing.T, c *cache.Cache, kind int, s api.State, versions, sights []api.Item) {
	t.Helper()
	same(t, fmt.Sprint("List of ", kind), int(c.List(kind, s, versions, sights)), 0)
}

func assume(t *testing.T, c *cache.Cache, pod, node string, picks ...string) {
	t.Helper()
	same(t, fmt.Sprintf("Assume(%q, %q, %q)", pod, node, picks), int(c.Assume(pod, node, pairs(picks...))), 0)
}

func arm(t *testing.T, c *cache.Cache, pod string, now int) {
	t.Helper()
	same(t, fmt.Sprintf("Arm(%q, %d)", pod, now), int(c.Arm(pod, now)), 0)
}

func forget(t *testing.T, c *cache.Cache, pod string) {
	t.Helper()
	same(t, fmt.Sprintf("Forget(%q)", pod), int(c.Forget(pod)), 0)
}

func expireIs(t *testing.T, what string, c *cache.Cache, now int, want ...string) {
	t.Helper()
	l, e := c.Expire(now)
	same(t, fmt.Sprint(what, ": Expire(", now, ")"), []any{l, int(e)}, []any{want, 0})
}

func assumedIs(t *testing.T, what string, c *cache.Cache, want ...string) {
	t.Helper()
	same(t, what+": Assumed", c.Assumed(), want)
}

// fails asks for an error, and that nothing is changed.
func fails(t *testing.T, what string, c *cache.Cache, do func() api.Errno, want api.Errno) {
	t.Helper()
	was := look(c)
	same(t, what, int(do()), int(want))
	same(t, what+": what is told then", look(c), was)
}

// where is on which node a state has each pod, its hope with it.
func where(s api.State) []string {
	var l []string
	for _, p := range s.Pods {
		at := p.Name + "@" + p.Node
		if p.Hope != "" {
			at += "?" + p.Hope
		}
		l = append(l, at)
	}
	return l
}

// whose is which volume each claim of a state has, and whose each volume is.
func whose(s api.State) []string {
	var l []string
	for _, c := range s.Claims {
		l = append(l, c.Name+"="+c.Volume)
	}
	for _, v := range s.Volumes {
		l = append(l, v.Name+"="+v.Claim)
	}
	return l
}

// sampleObjects is nodes m and n, pods a (on m), p, q and r (which hopes for m), claims c, d and e (which has x), volumes v, w and x (which is e's), a class k and a budget g.
func sampleObjects() []api.Object {
	return []api.Object{
		bare(api.KNode, "n"), bare(api.KNode, "m"), on("q", ""), on("a", "m"), on("p", ""), podOf(api.Pod{Name: "r", Hope: "m"}),
		bare(api.KClaim, "d"), bare(api.KClaim, "c"), claimOf(api.Claim{Name: "e", Volume: "x"}),
		bare(api.KVolume, "w"), bare(api.KVolume, "v"), volumeOf(api.Volume{Name: "x", Claim: "e"}),
		bare(api.KClass, "k"), bare(api.KBudget, "g"),
	}
}

// sample was told these objects by versions from 1 on.
func sample(t *testing.T) *cache.Cache {
	t.Helper()
	c := cache.New()
	for k, o := range sampleObjects() {
		tell(t, c, k+1, api.Added, o)
	}
	return c
}
