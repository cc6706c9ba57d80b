package preempt_test

import (
	"fmt"
	"math"
	"math/rand"
	"reflect"
	"slices"
	"testing"

	"stevedore/api"
	"stevedore/preempt"
)

// same holds two answers against each other (an empty list is as none).
func same(t *testing.T, what string, got, want any) {
	t.Helper()
	if g, w := fmt.Sprintf("%+v", got), fmt.Sprintf("%+v", want); g != w {
		t.Errorf("%s: %s, want %s", what, g, w)
	}
}

func labels(texts ...string) []api.Label {
	var l []api.Label
	for k := 0; k < len(texts); k += 2 {
		l = append(l, api.Label{Key: texts[k], Value: texts[k+1]})
	}
	return l
}

// asks is a selector of one key and one value.
func asks(key, value string) []api.Req {
	return []api.Req{{Key: key, Op: api.OpIn, Values: []string{value}}}
}

// by is a term of pods of that app, in a domain of the key.
func by(key, app string) []api.Term { return []api.Term{{Key: key, Reqs: asks("app", app)}} }

// node gives 1000 of all, and takes many.
func node(name string) api.Node {
	return api.Node{Name: name, Labels: labels("host", name), Pods: 99, Disks: 99, Give: api.Res{CPU: 1000, Mem: 1000, Disk: 1000}}
}

// on is a pod that is bound there.
func on(where, name string, priority, cpu int) api.Pod {
	return api.Pod{Name: name, Priority: priority, Node: where, Want: api.Res{CPU: cpu}}
}

// as is the pod with that app.
func as(app string, p api.Pod) api.Pod {
	p.Labels = labels("app", app)
	return p
}

// wants is a pod that waits.
func wants(priority, cpu int) api.Pod {
	return api.Pod{Name: "p", Priority: priority, Want: api.Res{CPU: cpu}}
}

// least is a budget about the app, of its own name.
func least(n int, app string) api.Budget {
	return api.Budget{Name: "b-" + app, Least: n, Reqs: asks("app", app)}
}

// at is the one node, with those pods.
func at(n api.Node, pods ...api.Pod) api.State {
	return api.State{Nodes: []api.Node{n}, Pods: pods}
}

// with is s with those budgets.
func with(s api.State, l ...api.Budget) api.State {
	s.Budgets = l
	return s
}

func names(l ...string) []string { return l }

// chosen is what is told of a candidate.
func chosen(node string, broken int, victims ...string) api.Chosen {
	return api.Chosen{Node: node, Victims: victims, Broken: broken}
}

// below asks Lower.
func below(t *testing.T, what string, s api.State, p api.Pod, node string, want ...string) {
	t.Helper()
	same(t, what+": Lower", preempt.Lower(s, p, node), want)
	same(t, what+": by the words", lowerByWords(s, p, node), want)
}

// puts asks Victims of a node that is a candidate.
func puts(t *testing.T, what string, s api.State, p api.Pod, node string, want ...string) {
	t.Helper()
	got, is := preempt.Victims(s, p, node)
	same(t, what+": Victims", []any{got, is}, []any{want, true})
	got, is = victimsByWords(s, p, node)
	same(t, what+": by the words", []any{got, is}, []any{want, true})
}

// none asks Victims of a node that is no candidate.
func none(t *testing.T, what string, s api.State, p api.Pod, node string) {
	t.Helper()
	got, is := preempt.Victims(s, p, node)
	same(t, what+": Victims", []any{got, is}, []any{names(), false})
	got, is = victimsByWords(s, p, node)
	same(t, what+": by the words", []any{got, is}, []any{names(), false})
}

// could asks Candidates.
func could(t *testing.T, what string, s api.State, p api.Pod, want ...api.Chosen) {
	t.Helper()
	same(t, what+": Candidates", preempt.Candidates(s, p), want)
	same(t, what+": by the words", candidatesByWords(s, p), want)
}

// best asks Choose for a candidate.
func best(t *testing.T, what string, s api.State, p api.Pod, want api.Chosen) {
	t.Helper()
	got, is := preempt.Choose(s, p)
	same(t, what+": Choose", []any{got, is}, []any{want, true})
	got, is = chooseByWords(s, p)
	same(t, what+": by the words", []any{got, is}, []any{want, true})
}

// nowhere asks Choose for none.
func nowhere(t *testing.T, what string, s api.State, p api.Pod) {
	t.Helper()
	got, is := preempt.Choose(s, p)
	same(t, what+": Choose", []any{got, is}, []any{api.Chosen{}, false})
	got, is = chooseByWords(s, p)
	same(t, what+": by the words", []any{got, is}, []any{api.Chosen{}, false})
}

func oneOf[T any](r *rand.Rand, l []T) T { return l[r.Intn(len(l))] }

func podNames() []string {
	return []string{"a", "b", "c", "d", "e", "f", "g", "h", "i", "j", "k", "l", "p"}
}

func nodeNames() []string { return []string{"m", "n", "o"} }

func priorities() []int {
	return []int{0, 1, 1, 2, 2, 3, 3, 4, 5, -1, 1 << 31, -1 << 31, math.MaxInt, math.MinInt}
}

func randomReqs(r *rand.Rand) []api.Req {
	app := oneOf(r, []string{"x", "y", "z"})
	return oneOf(r, [][]api.Req{asks("app", app), asks("app", app), asks("app", app), {{Key: "app", Op: api.OpExists}}, nil})
}

// rarely is x, once in n times.
func rarely[T any](r *rand.Rand, n int, x T) T {
	var zero T
	if r.Intn(n) == 0 {
		return x
	}
	return zero
}

// randomPod is a small one that is bound, mostly.
func randomPod(r *rand.Rand, name string) api.Pod {
	return api.Pod{
		Name: name, Priority: oneOf(r, priorities()), Node: oneOf(r, append(nodeNames(), append(nodeNames(), "", "gone")...)),
		Labels: oneOf(r, [][]api.Label{labels("app", "x"), labels("app", "y"), labels("app", "z"), nil}),
		Want:   api.Res{CPU: r.Intn(5), Mem: r.Intn(4)}, Ports: rarely(r, 4, []int{80 + r.Intn(2)}),
		Apart: rarely(r, 12, []api.Term{{Key: "host", Reqs: randomReqs(r)}}), Claims: rarely(r, 6, []string{oneOf(r, []string{"a", "b"})}),
	}
}

// randomComer is one that is greater, and waits, mostly.
func randomComer(r *rand.Rand) api.Pod {
	p := randomPod(r, "p")
	p.Priority, p.Node = oneOf(r, append(priorities(), 4, 5, 5, 6, 6)), rarely(r, 6, "n")
	p.Want = api.Res{CPU: r.Intn(9), Mem: r.Intn(7)}
	p.Near = rarely(r, 8, []api.Term{{Key: "host", Reqs: randomReqs(r)}})
	p.Spreads = rarely(r, 8, []api.Spread{{Key: "host", Skew: 1, Reqs: randomReqs(r)}})
	return p
}

// randomNode takes a few.
func randomNode(r *rand.Rand, name string) api.Node {
	n := api.Node{
		Name: name, Labels: labels("host", name), Off: r.Intn(12) == 0,
		Give: api.Res{CPU: 4 + r.Intn(8), Mem: 3 + r.Intn(8)}, Pods: 1 + r.Intn(7), Disks: r.Intn(3),
	}
	if r.Intn(12) == 0 {
		n.Taints = []api.Taint{{Key: "gpu", Effect: api.EffectKeep}}
	}
	return n
}

func randomBudget(r *rand.Rand) api.Budget {
	return api.Budget{Name: oneOf(r, []string{"a", "b", "c", "d"}), Reqs: randomReqs(r), Least: r.Intn(6)}
}

// randomState has pods, nodes and budgets in any order, some of them of one name.
func randomState(r *rand.Rand) api.State {
	s := api.State{
		Classes: []api.Class{{Name: "k", Wait: true}},
		Claims:  []api.Claim{{Name: "a", Size: 1, Class: "k"}, {Name: "b", Size: 1, Class: "k"}},
		Volumes: []api.Volume{{Name: "v", Size: 1, Class: "k"}, {Name: "w", Size: 1, Class: "k", Claim: rarely(r, 3, "b")}},
	}
	for _, name := range podNames() {
		if name != "p" || r.Intn(3) == 0 {
			s.Pods = append(s.Pods, randomPod(r, name))
		}
	}
	for _, name := range nodeNames() {
		s.Nodes = append(s.Nodes, randomNode(r, name))
	}
	if r.Intn(3) == 0 {
		s.Pods = append(s.Pods, randomPod(r, oneOf(r, podNames())), randomPod(r, oneOf(r, podNames())))
		s.Nodes = append(s.Nodes, randomNode(r, oneOf(r, nodeNames())))
		r.Shuffle(len(s.Pods), func(i, j int) { s.Pods[i], s.Pods[j] = s.Pods[j], s.Pods[i] })
		r.Shuffle(len(s.Nodes), func(i, j int) { s.Nodes[i], s.Nodes[j] = s.Nodes[j], s.Nodes[i] })
	}
	for range r.Intn(4) {
		s.Budgets = append(s.Budgets, randomBudget(r))
	}
	return s
}

// opened is x copied with nothing shared, each list as long as its room: what stands behind the ends is seen, too.
func opened[T any](x T) T { return deep(reflect.ValueOf(x)).Interface().(T) }

func deep(v reflect.Value) reflect.Value {
	out := reflect.New(v.Type()).Elem()
	switch v.Kind() {
	case reflect.Struct:
		for k := range v.NumField() {
			out.Field(k).Set(deep(v.Field(k)))
		}
	case reflect.Slice:
		if v.IsNil() {
			break
		}
		v = v.Slice(0, v.Cap())
		out.Set(reflect.MakeSlice(v.Type(), v.Len(), v.Len()))
		for k := range v.Len() {
			out.Index(k).Set(deep(v.Index(k)))
		}
	default:
		out.Set(v)
	}
	return out
}

// roomy is l with room behind it, in which there is something.
func roomy[T any](l []T, behind T) []T { return append(slices.Clone(l), behind, behind)[:len(l)] }
