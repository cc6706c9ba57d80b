package preempt_test

import (
	"math/rand"
	"reflect"
	"strconv"
	"testing"

	"stevedore/api"
	"stevedore/preempt"
)

// Rule 4: what is handed in stays as it was, not even what stands behind a list's end is changed.
func TestHandedInStays(t *testing.T) {
	r := rand.New(rand.NewSource(199))
	for range 1000 {
		s, p := randomState(r), randomComer(r)
		for k := range s.Pods {
			s.Pods[k].Labels = roomy(s.Pods[k].Labels, api.Label{Key: "behind"})
			s.Pods[k].Ports = roomy(s.Pods[k].Ports, 80)
		}
		s.Pods, s.Nodes, s.Budgets = roomy(s.Pods, on("n", "behind", 1, 1)), roomy(s.Nodes, node("behind")), roomy(s.Budgets, least(1, "x"))
		now := struct {
			S api.State
			P api.Pod
		}{s, p}
		was := opened(now)
		for _, n := range nodeNames() {
			preempt.Lower(s, p, n)
			preempt.Victims(s, p, n)
		}
		preempt.Candidates(s, p)
		preempt.Choose(s, p)
		if got := opened(now); !reflect.DeepEqual(got, was) {
			t.Fatalf("changed: %+v, was %+v", got, was)
		}
	}
}

// Rule 4: what is handed out is the caller's own: no two answers, and no two lists of one answer, share memory.
func TestHandedOutIsTheCallers(t *testing.T) {
	s := over(on("m", "a", 1, 500), on("m", "b", 1, 500), on("n", "c", 1, 500), on("n", "d", 1, 500), on("o", "e", 9, 600))
	p := wants(5, 1000)
	for _, call := range []func() []string{
		func() []string { return preempt.Lower(s, p, "m") },
		func() []string { l, _ := preempt.Victims(s, p, "m"); return l },
		func() []string { return preempt.Candidates(s, p)[0].Victims },
		func() []string { c, _ := preempt.Choose(s, p); return c.Victims },
	} {
		one, other := call(), call()
		for k := range one {
			one[k] = "spoilt"
		}
		_ = append(one, "more")
		same(t, "another answer", other, names("a", "b"))
		same(t, "the next answer", call(), names("a", "b"))
	}
	all := preempt.Candidates(s, p)
	_ = append(all[0].Victims, "more")
	all[0].Victims[0] = "spoilt"
	same(t, "the next candidate", all[1:], []api.Chosen{chosen("n", 0, "c", "d")})
	_ = append(all[:0], chosen("spoilt", 1))
	could(t, "the next answer", s, p, chosen("m", 0, "a", "b"), chosen("n", 0, "c", "d"))
}

// P1: no call panics, and each ends, whatever is handed in, of many members, too.
func TestManyMembers(t *testing.T) {
	var pods []api.Pod
	for k := range 3000 {
		pods = append(pods, as("x", on("n", "p"+strconv.Itoa(k), k%7, 1)))
	}
	s := with(at(node("n"), pods...), least(1000, "x"))
	s.Nodes[0].Give.CPU, s.Nodes[0].Pods = 3000, 5000
	c, is := preempt.Choose(s, wants(5, 700))
	same(t, "many: Choose", []any{c.Node, len(c.Victims), c.Broken, is}, []any{"n", 700, 0, true})

	empty := api.State{Pods: make([]api.Pod, 3), Nodes: make([]api.Node, 3), Budgets: make([]api.Budget, 3)}
	none(t, "objects of nothing", empty, wants(5, 1), "")
	could(t, "objects of nothing", empty, wants(5, 1))
	nowhere(t, "objects of nothing", empty, wants(5, 1))
}

// P1: many nodes, each with some pods.
func TestManyNodes(t *testing.T) {
	var s api.State
	for k := range 300 {
		name := strconv.Itoa(k)
		s.Nodes = append(s.Nodes, node(name))
		s.Pods = append(s.Pods, as("x", on(name, "a"+name, 300-k, 500)), on(name, "b"+name, 3, 400))
	}
	s = with(s, least(290, "x"))
	same(t, "many: Candidates", len(preempt.Candidates(s, wants(500, 600))), 300)
	c, is := preempt.Choose(s, wants(500, 600))
	same(t, "many: Choose", []any{c, is}, []any{chosen("299", 0, "a299"), true})
}
