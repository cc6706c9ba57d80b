package feasible_test

import (
	"fmt"
	"math/rand"
	"reflect"
	"slices"
	"strconv"
	"testing"

	"stevedore/api"
	"stevedore/feasible"
	"stevedore/fit"
	"stevedore/info"
	"stevedore/label"
	"stevedore/near"
	"stevedore/spread"
	"stevedore/volume"
)

// same holds two answers against each other (an empty list is as none).
func same(t *testing.T, what string, got, want any) {
	t.Helper()
	if g, w := fmt.Sprintf("%+v", got), fmt.Sprintf("%+v", want); g != w {
		t.Errorf("%s: %s, want %s", what, g, w)
	}
}

func labels(texts ...string) []api.Label {
	var l []api.Label
	for k := 0; k < len(texts); k += 2 {
		l = append(l, api.Label{Key: texts[k], Value: texts[k+1]})
	}
	return l
}

// asks is a selector of one key and one value.
func asks(key, value string) []api.Req {
	return []api.Req{{Key: key, Op: api.OpIn, Values: []string{value}}}
}

// by is a term of pods of that app, in a domain of the key.
func by(key, app string) []api.Term { return []api.Term{{Key: key, Reqs: asks("app", app)}} }

// even is a spread of pods of that app over the key's domains.
func even(key, app string, skew int) []api.Spread {
	return []api.Spread{{Key: key, Skew: skew, Reqs: asks("app", app)}}
}

// node gives much, and is in that zone.
func node(name, zone string) api.Node {
	return api.Node{Name: name, Labels: labels("host", name, "zone", zone), Pods: 99, Disks: 99, Give: api.Res{CPU: 1000, Mem: 1000, Disk: 1000}}
}

// on is a pod of that app that is bound there; empty: it waits.
func on(where, name, app string) api.Pod {
	return api.Pod{Name: name, Labels: labels("app", app), Node: where}
}

// picks is pairs of a claim and a volume.
func picks(names ...string) []api.Pick {
	var l []api.Pick
	for k := 0; k < len(names); k += 2 {
		l = append(l, api.Pick{Claim: names[k], Volume: names[k+1]})
	}
	return l
}

// kept is nodes and pods, with three claims of a class that waits, and volumes for them.
func kept(nodes []api.Node, pods ...api.Pod) api.State {
	s := api.State{Nodes: nodes, Pods: pods, Classes: []api.Class{{Name: "k", Wait: true}}, Budgets: []api.Budget{{Name: "b", Least: 1}}}
	for k, name := range []string{"a", "b", "c"} {
		s.Claims = append(s.Claims, api.Claim{Name: name, Size: k + 1, Class: "k"})
		s.Volumes = append(s.Volumes, api.Volume{Name: "v" + name, Size: k + 1, Class: "k"})
	}
	return s
}

// told asks Check why not, and for no picks.
func told(t *testing.T, what string, s api.State, p api.Pod, node string, want int) {
	t.Helper()
	planned(t, what, s, p, node, want, nil)
}

// planned asks Check why not, and for those picks.
func planned(t *testing.T, what string, s api.State, p api.Pod, node string, want int, l []api.Pick) {
	t.Helper()
	why, got := feasible.Check(s, p, node)
	same(t, what+": Check", []any{why, got}, []any{want, l})
	why, got = whyByWords(s, p, node)
	same(t, what+": by the words", []any{why, got}, []any{want, l})
}

// bound binds, and asks for no error.
func bound(t *testing.T, what string, s api.State, pod, node string, names ...string) api.State {
	t.Helper()
	u, e := feasible.Bind(s, pod, node, picks(names...))
	if e != api.OK {
		t.Fatalf("%s: Bind(%s, %s): %d", what, pod, node, e)
	}
	return u
}

// refused asks for an error, and for no state with it.
func refused(t *testing.T, what string, s api.State, pod, node string, l []api.Pick, want api.Errno) {
	t.Helper()
	u, e := feasible.Bind(s, pod, node, l)
	same(t, what, []any{int(e), u}, []any{int(want), api.State{}})
}

// allowed binds where that may be, with the plan's picks, and tells whether it did.
func allowed(t *testing.T, s api.State, pod, node string) (api.State, bool) {
	t.Helper()
	at := podAt(s, pod)
	if s.Pods[at].Node != "" {
		return s, false
	}
	why, l := feasible.Check(s, s.Pods[at], node)
	if why != 0 {
		return s, false
	}
	u, e := feasible.Bind(s, pod, node, l)
	if e != api.OK {
		t.Fatalf("Bind(%+v, %s, %s, %v): %d, and it may", s, pod, node, l, e)
	}
	return u, true
}

// podAt is the place of the first pod of that name; -1, if there is none.
func podAt(s api.State, name string) int {
	return slices.IndexFunc(s.Pods, func(p api.Pod) bool { return p.Name == name })
}

func nodeAt(s api.State, name string) int {
	return slices.IndexFunc(s.Nodes, func(n api.Node) bool { return n.Name == name })
}

// nodesByWords is the first node of each name.
func nodesByWords(s api.State) []api.Node {
	var out []api.Node
	for k, n := range s.Nodes {
		if nodeAt(s, n.Name) == k {
			out = append(out, n)
		}
	}
	return out
}

// labelsByWords is the labels of the first node of that name; none, if it is not there.
func labelsByWords(s api.State, name string) []api.Label {
	if at := nodeAt(s, name); at >= 0 {
		return s.Nodes[at].Labels
	}
	return nil
}

// whyByWords is the chapter's sentences, with what the layers below tell.
func whyByWords(s api.State, p api.Pod, name string) (int, []api.Pick) {
	at := nodeAt(s, name)
	if at < 0 {
		return api.WhyNode, nil
	}
	var there []api.Pod
	var placed []api.Placed
	for k, q := range s.Pods {
		if q.Name == p.Name || podAt(s, q.Name) != k || q.Node == "" {
			continue
		}
		if q.Node == name {
			there = append(there, q)
		}
		placed = append(placed, api.Placed{Pod: q, Labels: labelsByWords(s, q.Node)})
	}
	i := info.Of(s.Nodes[at], there...)
	if why := fit.Check(p, i); why != 0 {
		return why, nil
	}
	if why := near.Check(p, i.Node.Labels, placed); why != 0 {
		return why, nil
	}
	if why := spread.Check(p, i.Node.Labels, nodesByWords(s), placed); why != 0 {
		return why, nil
	}
	l, why := volume.Plan(p, i, s)
	return why, l
}

// withoutByWords is the chapter's sentence.
func withoutByWords(s api.State, names []string) api.State {
	s.Pods = slices.DeleteFunc(slices.Clone(s.Pods), func(p api.Pod) bool { return slices.Contains(names, p.Name) })
	return s
}

// bindByWords is the chapter's sentence.
func bindByWords(s api.State, pod, node string, l []api.Pick) (api.State, api.Errno) {
	at := podAt(s, pod)
	if at < 0 || nodeAt(s, node) < 0 {
		return api.State{}, api.ErrNone
	}
	if s.Pods[at].Node != "" {
		return api.State{}, api.ErrArg
	}
	u, e := volume.Apply(s, l)
	if e != api.OK {
		return api.State{}, e
	}
	u.Pods[at].Node, u.Pods[at].Hope = node, ""
	return u, api.OK
}

// meetsOne asks whether labels meet the selector of one of the terms.
func meetsOne(l []api.Label, terms []api.Term) bool {
	return slices.ContainsFunc(terms, func(x api.Term) bool { return label.Match(l, x.Reqs) })
}

// spreadsIt asks whether labels meet the selector of one of the spreads.
func spreadsIt(l []api.Label, spreads []api.Spread) bool {
	return slices.ContainsFunc(spreads, func(x api.Spread) bool { return label.Match(l, x.Reqs) })
}

func oneOf[T any](r *rand.Rand, l []T) T { return l[r.Intn(len(l))] }

func podNames() []string {
	return []string{"a", "b", "c", "d", "e", "f", "g", "h", "i", "j", "k", "l"}
}

func nodeNames() []string { return []string{"m", "n", "o", "q"} }

func claimNames() []string { return []string{"a", "b", "c", "d", "e"} }

func randomReqs(r *rand.Rand) []api.Req {
	app := oneOf(r, []string{"x", "y", "z"})
	return oneOf(r, [][]api.Req{asks("app", app), asks("app", app), asks("app", app), {{Key: "app", Op: api.OpNotIn, Values: []string{app}}}, {{Key: "app", Op: api.OpLacks}}, nil})
}

// randomTerms is mostly none.
func randomTerms(r *rand.Rand) []api.Term {
	var l []api.Term
	for range max(0, r.Intn(6)-3) {
		l = append(l, api.Term{Key: oneOf(r, []string{"zone", "zone", "host", "rack"}), Reqs: randomReqs(r)})
	}
	return l
}

func randomSpreads(r *rand.Rand) []api.Spread {
	var l []api.Spread
	for range max(0, r.Intn(6)-3) {
		l = append(l, api.Spread{Key: oneOf(r, []string{"zone", "zone", "host", "rack"}), Skew: 1 + r.Intn(2), Least: r.Intn(3), Reqs: randomReqs(r)})
	}
	return l
}

// some is a few of l, in order.
func some[T any](r *rand.Rand, l []T, n int) []T {
	var out []T
	for _, x := range l {
		if r.Intn(len(l)) < n {
			out = append(out, x)
		}
	}
	return out
}

func randomPod(r *rand.Rand, name string) api.Pod {
	p := api.Pod{
		Name: name, Priority: r.Intn(3), Labels: oneOf(r, [][]api.Label{labels("app", "x"), labels("app", "y"), labels("app", "z"), nil}),
		Want: api.Res{CPU: r.Intn(5), Mem: r.Intn(5), Disk: r.Intn(5)}, Ports: some(r, []int{80, 443, 8080, 9000}, 1-r.Intn(2)),
		Near: nil, Apart: randomTerms(r), Spreads: randomSpreads(r), Claims: some(r, claimNames(), 1-r.Intn(2)),
		Hope: oneOf(r, append(nodeNames(), "", "", "")),
	}
	if r.Intn(2) == 0 {
		p.Near = randomTerms(r)
	}
	if r.Intn(3) == 0 {
		p.Bears = []api.Bear{{Key: "gpu", Any: true}}
	}
	if r.Intn(6) == 0 {
		p.Asks = asks("zone", oneOf(r, []string{"1", "2"}))
	}
	return p
}

func randomNode(r *rand.Rand, name string) api.Node {
	n := api.Node{
		Name: name, Labels: labels("host", name, "zone", oneOf(r, []string{"1", "1", "2", "3"})), Off: r.Intn(12) == 0,
		Give: api.Res{CPU: 4 + r.Intn(14), Mem: 4 + r.Intn(14), Disk: 4 + r.Intn(14)}, Pods: r.Intn(9), Disks: r.Intn(6),
	}
	if r.Intn(2) == 0 {
		n.Labels = labels("host", name, "rack", oneOf(r, []string{"1", "2"}), "zone", oneOf(r, []string{"1", "2"}))
	}
	if r.Intn(8) == 0 {
		n.Labels = nil
	}
	if r.Intn(8) == 0 {
		n.Taints = []api.Taint{{Key: "gpu", Effect: api.EffectKeep}}
	}
	return n
}

// soundState has each name once, nobody bound, and volumes and claims that fit together.
func soundState(r *rand.Rand) api.State {
	s := api.State{Classes: []api.Class{{Name: "k", Wait: true}, {Name: "now"}}, Budgets: []api.Budget{{Name: "b", Least: 1}}}
	for _, name := range nodeNames() {
		if r.Intn(8) > 0 {
			s.Nodes = append(s.Nodes, randomNode(r, name))
		}
	}
	for _, name := range podNames() {
		if r.Intn(8) > 0 {
			s.Pods = append(s.Pods, randomPod(r, name))
		}
	}
	for k, name := range claimNames() {
		if r.Intn(10) > 0 {
			s.Claims = append(s.Claims, api.Claim{Name: name, Size: r.Intn(3), Class: oneOf(r, []string{"k", "k", "k", "k", "k", "now"})})
		}
		v := api.Volume{Name: "v" + strconv.Itoa(k), Size: r.Intn(4), Class: "k"}
		if r.Intn(2) == 0 {
			v.Reqs = asks("zone", oneOf(r, []string{"1", "2"}))
		}
		if r.Intn(4) > 0 {
			s.Volumes = append(s.Volumes, v)
		}
	}
	return s
}

// anyState has pods bound anyhow, to nodes that are not there, too, and names that stand twice or are empty.
func anyState(r *rand.Rand) api.State {
	s := soundState(r)
	for k := range s.Pods {
		s.Pods[k].Node = oneOf(r, append(nodeNames(), "", "", "not there"))
	}
	if r.Intn(3) > 0 {
		return s
	}
	for range r.Intn(4) {
		p := randomPod(r, oneOf(r, append(podNames(), "")))
		p.Node = oneOf(r, append(nodeNames(), "", "not there"))
		s.Pods = slices.Insert(s.Pods, r.Intn(len(s.Pods)+1), p)
	}
	for range r.Intn(3) {
		n := randomNode(r, oneOf(r, append(nodeNames(), "")))
		s.Nodes = slices.Insert(s.Nodes, r.Intn(len(s.Nodes)+1), n)
	}
	return s
}

// anyPod is one of the state's, or one like it in name alone, or another one.
func anyPod(r *rand.Rand, s api.State) api.Pod {
	switch k := r.Intn(4); {
	case k < 2 && len(s.Pods) > 0:
		return oneOf(r, s.Pods)
	case k == 2:
		return randomPod(r, oneOf(r, append(podNames(), "")))
	}
	return randomPod(r, "new")
}

func anyNode(r *rand.Rand) string { return oneOf(r, append(nodeNames(), "", "not there")) }

// randomPicks are mostly such that Apply takes them.
func randomPicks(r *rand.Rand, s api.State) []api.Pick {
	l := picks()
	for range r.Intn(3) {
		l = append(l, api.Pick{Claim: oneOf(r, append(claimNames(), "none")), Volume: "v" + strconv.Itoa(r.Intn(6))})
	}
	if p := anyPod(r, s); r.Intn(2) == 0 {
		l, _ = volume.Plan(p, info.Of(api.Node{Disks: 9, Labels: labels("zone", "1")}), s)
	}
	return l
}

// copied is s with lists of its own.
func copied(s api.State) api.State {
	return api.State{
		Pods: slices.Clone(s.Pods), Nodes: slices.Clone(s.Nodes), Volumes: slices.Clone(s.Volumes),
		Claims: slices.Clone(s.Claims), Classes: slices.Clone(s.Classes), Budgets: slices.Clone(s.Budgets),
	}
}

// opened is x copied with nothing shared, each list as long as its room: what stands behind the ends is seen, too.
func opened[T any](x T) T { return deep(reflect.ValueOf(x)).Interface().(T) }

func deep(v reflect.Value) reflect.Value {
	out := reflect.New(v.Type()).Elem()
	switch v.Kind() {
	case reflect.Struct:
		for k := range v.NumField() {
			out.Field(k).Set(deep(v.Field(k)))
		}
	case reflect.Slice:
		if v.IsNil() {
			break
		}
		v = v.Slice(0, v.Cap())
		out.Set(reflect.MakeSlice(v.Type(), v.Len(), v.Len()))
		for k := range v.Len() {
			out.Index(k).Set(deep(v.Index(k)))
		}
	default:
		out.Set(v)
	}
	return out
}

// roomy is l with room behind it, in which there is something.
func roomy[T any](l []T, behind T) []T { return append(slices.Clone(l), behind, behind)[:len(l)] }

// roomyState is s with room behind each list.
func roomyState(s api.State) api.State {
	return api.State{
		Pods:    roomy(s.Pods, api.Pod{Name: "behind"}),
		Nodes:   roomy(s.Nodes, api.Node{Name: "behind"}),
		Volumes: roomy(s.Volumes, api.Volume{Name: "behind", Class: "k"}),
		Claims:  roomy(s.Claims, api.Claim{Name: "behind", Class: "k"}),
		Classes: roomy(s.Classes, api.Class{Name: "behind", Wait: true}),
		Budgets: roomy(s.Budgets, api.Budget{Name: "behind"}),
	}
}

// scribble writes into each list of a state.
func scribble(s api.State) {
	scrawl(s.Pods, api.Pod{Name: "scribbled"})
	scrawl(s.Nodes, api.Node{Name: "scribbled"})
	scrawl(s.Volumes, api.Volume{Name: "scribbled"})
	scrawl(s.Claims, api.Claim{Name: "scribbled"})
	scrawl(s.Classes, api.Class{Name: "scribbled"})
	scrawl(s.Budgets, api.Budget{Name: "scribbled"})
}

// scrawl writes behind the end of a list, too.
func scrawl[T any](l []T, x T) {
	l = l[:cap(l)]
	for k := range l {
		l[k] = x
	}
}
