package feasible_test

import (
	"fmt"
	"math/rand"
	"slices"
	"strconv"
	"testing"

	"stevedore/api"
	"stevedore/feasible"
)

// 11.1, 11.2, the chapter's example.
func TestExample(t *testing.T) {
	a, b := api.Pod{Name: "a", Want: api.Res{CPU: 500}}, api.Pod{Name: "b", Want: api.Res{CPU: 600}}
	s := api.State{Nodes: []api.Node{{Name: "n", Pods: 9, Give: api.Res{CPU: 1000}}}, Pods: []api.Pod{a, b}}
	told(t, "500m of 1 CPU", s, a, "n", 0)
	told(t, "600m of 1 CPU", s, b, "n", 0)
	told(t, "no such node", s, a, "x", api.WhyNode)
	s = bound(t, "500m", s, "a", "n")
	told(t, "600m behind it", s, b, "n", api.WhyCPU)
	told(t, "no such node behind it", s, b, "x", api.WhyNode)
}

// 11.1: a node that is not there, whatever is there, and whatever the pod wants.
func TestNoSuchNode(t *testing.T) {
	p := on("", "p", "x")
	p.Claims = []string{"a"}
	for _, name := range []string{"", "x", "N", "n ", "nn"} {
		told(t, fmt.Sprintf("%q of nothing", name), api.State{}, p, name, api.WhyNode)
		told(t, fmt.Sprintf("%q of others", name), kept([]api.Node{node("m", "1"), node("n", "2")}, p), p, name, api.WhyNode)
		told(t, fmt.Sprintf("%q, where one is bound", name), kept([]api.Node{node("n", "2")}, on(name, "q", "x"), p), p, name, api.WhyNode)
	}
	far := api.Pod{Name: "p", Node: "x", Hope: "x", Want: api.Res{CPU: api.MaxAmount}, Near: by("zone", "y"), Spreads: even("rack", "x", 1), Claims: []string{"none"}}
	told(t, "ahead of all else", kept([]api.Node{node("n", "1")}), far, "x", api.WhyNode)
}

// 11.1: a state without nodes has nothing to tell.
func TestNoNodes(t *testing.T) {
	p := on("", "p", "x")
	for what, s := range map[string]api.State{"nothing": {}, "empty lists": {Nodes: []api.Node{}, Pods: []api.Pod{}}, "pods": kept(nil, p, on("n", "q", "x"))} {
		told(t, what, s, p, "n", api.WhyNode)
		told(t, what, s, api.Pod{}, "", api.WhyNode)
		if all, where := feasible.All(s, p), feasible.Any(s, p); len(all) != 0 || len(where) != 0 {
			t.Errorf("%s: %v %v", what, all, where)
		}
	}
}

// 11.1: who waits is bound nowhere, even if a node has no name.
func TestNodeWithoutName(t *testing.T) {
	n := node("", "1")
	n.Pods = 1
	s := kept([]api.Node{n}, on("", "q", "x"), on("", "r", "x"))
	told(t, "no name", s, on("", "p", "x"), "", 0)
	same(t, "Any", feasible.Any(s, on("", "p", "x")), []string{""})
}

// full is a node of zone 1 with just room for one pod more that wants 10 of each, and one of zone 2 with as many of the app x.
func full() api.State {
	n := node("n", "1")
	n.Pods, n.Give, n.Disks = 3, api.Res{CPU: 100, Mem: 100, Disk: 100}, 2
	s := kept([]api.Node{n, node("o", "2")}, on("n", "q", "x"), on("n", "r", "y"), on("o", "s", "x"))
	s.Pods[0].Want, s.Pods[1].Want = api.Res{CPU: 40, Mem: 90, Disk: 20}, api.Res{CPU: 50, Disk: 70}
	s.Pods[0].Ports, s.Pods[1].Claims = []int{80}, []string{"z"}
	return s
}

// narrow is a pod that may just come to the node n of full.
func narrow() api.Pod {
	return api.Pod{
		Name: "p", Labels: labels("app", "x"), Want: api.Res{CPU: 10, Mem: 10, Disk: 10}, Ports: []int{443}, Asks: asks("zone", "1"),
		Near: by("zone", "y"), Apart: by("host", "z"), Spreads: even("zone", "x", 1), Claims: []string{"b"},
	}
}

// reasons is each reason, with what makes it the only one against narrow on full's node n.
func reasons() []reason {
	return []reason{
		{api.WhyOff, func(s *api.State, p *api.Pod) { s.Nodes[0].Off = true }},
		{api.WhyTaint, func(s *api.State, p *api.Pod) {
			s.Nodes[0].Taints = []api.Taint{{Key: "gpu", Effect: api.EffectKeep}}
		}},
		{api.WhyAsks, func(s *api.State, p *api.Pod) { p.Asks = asks("zone", "2") }},
		{api.WhyPorts, func(s *api.State, p *api.Pod) { p.Ports = []int{80} }},
		{api.WhyPods, func(s *api.State, p *api.Pod) { s.Nodes[0].Pods = 2 }},
		{api.WhyCPU, func(s *api.State, p *api.Pod) { p.Want.CPU = 11 }},
		{api.WhyMem, func(s *api.State, p *api.Pod) { p.Want.Mem = 11 }},
		{api.WhyDisk, func(s *api.State, p *api.Pod) { p.Want.Disk = 11 }},
		{api.WhyNear, func(s *api.State, p *api.Pod) { s.Pods[1].Node = "o" }},
		{api.WhyApart, func(s *api.State, p *api.Pod) { p.Apart = by("host", "x") }},
		{api.WhyOthers, func(s *api.State, p *api.Pod) { s.Pods[1].Apart = by("zone", "x") }},
		{api.WhySpread, func(s *api.State, p *api.Pod) { s.Pods[2].Labels = nil }},
		{api.WhyClaim, func(s *api.State, p *api.Pod) { p.Claims = []string{"b", "none"} }},
		{api.WhyVolume, func(s *api.State, p *api.Pod) { s.Volumes[1].Claim, s.Volumes[2].Claim = "u", "u" }},
		{api.WhyDisks, func(s *api.State, p *api.Pod) { s.Nodes[0].Disks = 1 }},
	}
}

type reason struct {
	why   int
	cause func(s *api.State, p *api.Pod)
}

// 11.1: each reason alone, without picks, and nothing.
func TestEachReason(t *testing.T) {
	planned(t, "nothing", full(), narrow(), "n", 0, picks("b", "vb"))
	for _, x := range reasons() {
		s, p := full(), narrow()
		x.cause(&s, &p)
		told(t, fmt.Sprintf("reason %d", x.why), s, p, "n", x.why)
		same(t, fmt.Sprintf("reason %d: All", x.why), feasible.All(s, p)[0], x.why)
	}
}

// 11.1: each set of fit, near, spread and volumes against it: the first one counts, and there are no picks.
func TestTheFirstCounts(t *testing.T) {
	order := []int{api.WhyDisk, api.WhyOthers, api.WhySpread, api.WhyVolume}
	for set := range 1 << len(order) {
		s, p := full(), narrow()
		if set&1 != 0 {
			p.Want.Disk = 11
		}
		if set&2 != 0 {
			s.Pods[1].Apart = by("zone", "x")
		}
		if set&4 != 0 {
			s.Pods[2].Node = "not there"
		}
		if set&8 != 0 {
			p.Claims = []string{"a", "b"}
			s.Volumes = s.Volumes[:1]
		}
		what := fmt.Sprintf("the set %04b", set)
		if set == 0 {
			planned(t, what, s, p, "n", 0, picks("b", "vb"))
			continue
		}
		first := slices.IndexFunc([]int{1, 2, 4, 8}, func(bit int) bool { return set&bit != 0 })
		told(t, what, s, p, "n", order[first])
		same(t, what+": All", feasible.All(s, p)[0], order[first])
		if slices.Contains(feasible.Any(s, p), "n") {
			t.Errorf("%s: Any has n", what)
		}
	}
}

// 11.1: the plan's picks, in the order of the pod's claims; a claim that has a volume picks none.
func TestPicks(t *testing.T) {
	s := kept([]api.Node{node("n", "1"), node("o", "2")})
	planned(t, "none", s, api.Pod{Name: "p"}, "n", 0, nil)
	planned(t, "one", s, api.Pod{Name: "p", Claims: []string{"b"}}, "n", 0, picks("b", "vb"))
	planned(t, "three", s, api.Pod{Name: "p", Claims: []string{"a", "b", "c"}}, "n", 0, picks("a", "va", "b", "vb", "c", "vc"))
	planned(t, "falling", s, api.Pod{Name: "p", Claims: []string{"c", "a", "b"}}, "n", 0, picks("c", "vc", "a", "va", "b", "vb"))
	s.Claims[1].Volume, s.Volumes[1].Claim = "vb", "b"
	planned(t, "one has its volume", s, api.Pod{Name: "p", Claims: []string{"c", "b", "a"}}, "n", 0, picks("c", "vc", "a", "va"))
	s.Volumes[0].Reqs, s.Volumes[2].Reqs = asks("zone", "1"), asks("zone", "2")
	planned(t, "by the node's labels, zone 1", s, api.Pod{Name: "p", Claims: []string{"a"}}, "n", 0, picks("a", "va"))
	planned(t, "by the node's labels, zone 2", s, api.Pod{Name: "p", Claims: []string{"a"}}, "o", 0, picks("a", "vc"))
	told(t, "its volume is elsewhere", s, api.Pod{Name: "p", Claims: []string{"c"}}, "n", api.WhyVolume)
}

// 11.1: claims in use on the node are those of the pods that are bound there, each once; the pod's own are not counted twice.
func TestDisksOfTheNode(t *testing.T) {
	n := node("n", "1")
	n.Disks = 2
	q, r, w := on("n", "q", "x"), on("o", "r", "x"), on("", "w", "x")
	q.Claims, r.Claims, w.Claims = []string{"a"}, []string{"b", "c"}, []string{"c"}
	s := kept([]api.Node{n, node("o", "1")}, q, r, w)
	for k, name := range []string{"a", "b", "c"} {
		s.Claims[k].Volume, s.Volumes[k].Claim = "v"+name, name
	}
	told(t, "a second claim", s, api.Pod{Name: "p", Claims: []string{"c"}}, "n", 0)
	told(t, "the claim that is in use", s, api.Pod{Name: "p", Claims: []string{"a", "b"}}, "n", 0)
	told(t, "a third claim", s, api.Pod{Name: "p", Claims: []string{"b", "c"}}, "n", api.WhyDisks)
	told(t, "q's own do not count", s, api.Pod{Name: "q", Claims: []string{"b", "c"}}, "n", 0)
}

// 11.1: the pod itself does not count, whether it waits, stands there or elsewhere, nor does any pod of its name.
func TestOwnName(t *testing.T) {
	n := node("n", "1")
	n.Pods, n.Disks = 1, 1
	p := api.Pod{
		Name: "p", Labels: labels("app", "x"), Want: api.Res{CPU: 1000, Mem: 1000, Disk: 1000}, Ports: []int{80},
		Apart: by("zone", "x"), Spreads: even("zone", "x", 1), Claims: []string{"a"},
	}
	bare := api.Pod{Name: "p"}
	for what, there := range map[string][]api.Pod{
		"not there": nil, "waits": {p}, "on it": {onNode(p, "n")}, "elsewhere": {onNode(p, "o")}, "on none that is there": {onNode(p, "x")},
		"twice on it": {onNode(p, "n"), onNode(p, "n")}, "waits, and on it": {p, onNode(p, "n")}, "on it, another one": {onNode(bare, "n")},
		"thrice, with another one between": {onNode(bare, "o"), on("o", "q", "y"), onNode(p, "n"), onNode(p, "n")},
	} {
		s := kept([]api.Node{n, node("o", "2")}, there...)
		planned(t, what, s, p, "n", 0, picks("a", "va"))
		planned(t, what+", handed in as bound", s, onNode(p, "n"), "n", 0, picks("a", "va"))
		planned(t, what+", handed in as bound elsewhere", s, onNode(p, "o"), "n", 0, picks("a", "va"))
		same(t, what+": All", feasible.All(s, p), []int{0, 0})
		same(t, what+": Any", feasible.Any(s, p), []string{"n", "o"})
	}
	s := kept([]api.Node{n, node("o", "2")}, onNode(p, "n"))
	other := p
	other.Name = "p2"
	told(t, "another name", s, other, "n", api.WhyPorts)
	planned(t, "another name, elsewhere", s, other, "o", 0, picks("a", "va"))
}

// onNode is p, bound there.
func onNode(p api.Pod, where string) api.Pod {
	p.Node = where
	return p
}

// 11.1: who waits, or hopes, is in nobody's way.
func TestWaitingDoNotCount(t *testing.T) {
	n := node("n", "1")
	n.Pods, n.Disks = 1, 1
	w := api.Pod{Name: "w", Labels: labels("app", "x"), Want: n.Give, Ports: []int{80}, Apart: by("zone", "x"), Claims: []string{"c"}, Hope: "n"}
	s := kept([]api.Node{n}, w)
	p := api.Pod{Name: "p", Labels: labels("app", "x"), Want: n.Give, Ports: []int{80}, Apart: by("zone", "x"), Spreads: even("zone", "x", 1), Claims: []string{"a"}}
	planned(t, "one waits", s, p, "n", 0, picks("a", "va"))
	p.Near = by("zone", "y")
	told(t, "nobody is near", s, p, "n", api.WhyNear)
	s.Pods[0].Labels = labels("app", "y")
	told(t, "who waits is not near", s, p, "n", api.WhyNear)
}

// 11.1: what others are told of stands on other nodes, too, each with the labels of its own node.
func TestPlacedOnOtherNodes(t *testing.T) {
	nodes := []api.Node{node("m", "1"), node("n", "1"), node("o", "2")}
	q := on("m", "q", "y")
	p := on("", "p", "x")
	p.Near = by("zone", "y")
	s := kept(nodes, q)
	same(t, "near", feasible.All(s, p), []int{0, 0, api.WhyNear})
	p.Near = by("host", "y")
	same(t, "near by host", feasible.All(s, p), []int{0, api.WhyNear, api.WhyNear})
	p.Near, p.Apart = nil, by("zone", "y")
	same(t, "apart", feasible.All(s, p), []int{api.WhyApart, api.WhyApart, 0})
	p.Apart, q.Apart = nil, by("zone", "x")
	s = kept(nodes, q)
	same(t, "others apart", feasible.All(s, p), []int{api.WhyOthers, api.WhyOthers, 0})
	p.Spreads = even("zone", "y", 0)
	s = kept(nodes, on("m", "q", "y"))
	same(t, "spread", feasible.All(s, p), []int{api.WhySpread, api.WhySpread, 0})
	p.Spreads = even("host", "y", 0)
	same(t, "spread by host", feasible.All(s, p), []int{api.WhySpread, 0, 0})
}

// 11.1: the domains of a spread are those of all nodes, of those that are off or full, too.
func TestDomainsOfAllNodes(t *testing.T) {
	off := node("o", "2")
	off.Off = true
	p := on("", "p", "x")
	p.Spreads = even("zone", "x", 1)
	q := on("n", "q", "x")
	told(t, "one zone alone", kept([]api.Node{node("n", "1")}, q), p, "n", 0)
	told(t, "one that is off", kept([]api.Node{node("n", "1"), off}, q), p, "n", api.WhySpread)
	same(t, "All", feasible.All(kept([]api.Node{node("n", "1"), off}, q), p), []int{api.WhySpread, api.WhyOff})
}

// 11.1: who is bound to a node that is not there is placed, and has no labels: it is in no domain, and uses nothing of any node.
func TestBoundToNone(t *testing.T) {
	n := node("n", "1")
	n.Pods, n.Disks = 1, 0
	q := api.Pod{Name: "q", Labels: labels("app", "x"), Want: n.Give, Ports: []int{80}, Apart: by("zone", "x"), Claims: []string{"a"}, Node: "gone"}
	s := kept([]api.Node{n}, q)
	p := api.Pod{Name: "p", Labels: labels("app", "x"), Want: n.Give, Ports: []int{80}}
	told(t, "nothing is used", s, p, "n", 0)
	p.Apart, p.Spreads = by("zone", "x"), even("zone", "x", 1)
	told(t, "it is nowhere apart", s, p, "n", 0)
	p.Apart, p.Near = nil, by("zone", "x")
	told(t, "p is the first one", s, p, "n", 0)
	p.Labels = labels("app", "y")
	told(t, "it is nowhere near", s, p, "n", api.WhyNear)
	s.Nodes = append(s.Nodes, node("gone", "1"))
	told(t, "its node is there", s, p, "n", 0)
}

// 11.1: of each name the first one counts, of pods and of nodes; a second one stands nowhere and gives nothing.
func TestNamesTwice(t *testing.T) {
	small, off := node("n", "1"), node("n", "2")
	small.Give.CPU, off.Off = 10, true
	p := on("", "p", "x")
	p.Want.CPU = 10
	for _, c := range []struct {
		what  string
		nodes []api.Node
		all   []int
		where []string
	}{
		{"the first may", []api.Node{small, off}, []int{0}, []string{"n"}},
		{"the second may", []api.Node{off, small}, []int{api.WhyOff}, nil},
		{"with others between", []api.Node{node("m", "1"), off, node("o", "1"), small, node("m", "2")}, []int{0, api.WhyOff, 0}, []string{"m", "o"}},
	} {
		s := kept(c.nodes)
		same(t, c.what+": All", feasible.All(s, p), c.all)
		same(t, c.what+": Any", feasible.Any(s, p), c.where)
		at := slices.IndexFunc(nodesByWords(s), func(n api.Node) bool { return n.Name == "n" })
		told(t, c.what, s, p, "n", c.all[at])
	}
	p.Apart = by("zone", "y")
	s := kept([]api.Node{node("n", "1"), node("n", "2"), node("o", "2")}, on("n", "q", "y"))
	same(t, "the labels of the first", feasible.All(s, p), []int{api.WhyApart, 0})
	p.Apart, p.Spreads = nil, even("zone", "x", 1)
	s = kept([]api.Node{node("n", "1"), node("n", "2")}, on("n", "q", "x"))
	told(t, "no domain of the second", s, p, "n", 0)
}

// 11.1: of a pod's name, too, the first one counts, even if it waits.
func TestPodsTwice(t *testing.T) {
	p := on("", "p", "x")
	p.Want.CPU, p.Apart = 600, by("zone", "y")
	great := on("", "q", "y")
	great.Want.CPU = 500
	little := on("", "q", "z")
	nodes := []api.Node{node("n", "1"), node("o", "2")}
	for _, c := range []struct {
		what string
		pods []api.Pod
		want []int
	}{
		{"the great one first", []api.Pod{onNode(great, "n"), onNode(little, "n")}, []int{api.WhyCPU, 0}},
		{"the little one first", []api.Pod{onNode(little, "n"), onNode(great, "n")}, []int{0, 0}},
		{"on two nodes", []api.Pod{onNode(little, "n"), onNode(great, "o")}, []int{0, 0}},
		{"on two nodes, the other way round", []api.Pod{onNode(great, "o"), onNode(little, "n")}, []int{0, api.WhyCPU}},
		{"the first waits", []api.Pod{little, onNode(great, "n")}, []int{0, 0}},
		{"the second waits", []api.Pod{onNode(great, "n"), little}, []int{api.WhyCPU, 0}},
		{"the first on none", []api.Pod{onNode(little, "gone"), onNode(great, "n")}, []int{0, 0}},
	} {
		same(t, c.what, feasible.All(kept(nodes, c.pods...), p), c.want)
	}
	p.Want.CPU = 1
	same(t, "apart from the first", feasible.All(kept(nodes, onNode(great, "n"), onNode(little, "o")), p), []int{api.WhyApart, 0})
	same(t, "not from the second", feasible.All(kept(nodes, onNode(little, "n"), onNode(great, "o")), p), []int{0, 0})
}

// 11.1: claims and volumes whose names stand twice: the first one counts.
func TestClaimsTwice(t *testing.T) {
	s := kept([]api.Node{node("n", "1")})
	s.Claims = append([]api.Claim{{Name: "a", Size: 3, Class: "k"}}, s.Claims...)
	planned(t, "a greater claim first", s, api.Pod{Name: "p", Claims: []string{"a"}}, "n", 0, picks("a", "vc"))
	s.Volumes = append([]api.Volume{{Name: "vc", Class: "k"}}, s.Volumes...)
	told(t, "a smaller volume first", s, api.Pod{Name: "p", Claims: []string{"a"}}, "n", api.WhyVolume)
}

// 11.1: All and Any in the order of the nodes, whatever their names.
func TestOrder(t *testing.T) {
	off, small := node("a", "1"), node("c", "1")
	off.Off, small.Pods = true, 0
	p := on("", "p", "x")
	for _, c := range []struct {
		nodes []api.Node
		all   []int
		where []string
	}{
		{[]api.Node{off, node("b", "1"), small, node("d", "1")}, []int{api.WhyOff, 0, api.WhyPods, 0}, []string{"b", "d"}},
		{[]api.Node{node("d", "1"), small, node("b", "1"), off}, []int{0, api.WhyPods, 0, api.WhyOff}, []string{"d", "b"}},
		{[]api.Node{small, node("d", "1"), off, node("", "1"), node("b", "1")}, []int{api.WhyPods, 0, api.WhyOff, 0, 0}, []string{"d", "", "b"}},
		{[]api.Node{off, small}, []int{api.WhyOff, api.WhyPods}, nil},
	} {
		same(t, "All", feasible.All(kept(c.nodes), p), c.all)
		same(t, "Any", feasible.Any(kept(c.nodes), p), c.where)
	}
}

// 11.1: random states and pods, held against the words; each reason is drawn.
func TestRandomChecks(t *testing.T) {
	r := rand.New(rand.NewSource(111))
	seen, picked := map[int]int{}, 0
	for range 7000 {
		s := anyState(r)
		p := anyPod(r, s)
		for _, name := range []string{anyNode(r), anyNode(r)} {
			why, l := feasible.Check(s, p, name)
			want, wantL := whyByWords(s, p, name)
			if why != want || !slices.Equal(l, wantL) {
				t.Fatalf("Check(%+v, %+v, %s): %d %v, want %d %v", s, p, name, why, l, want, wantL)
			}
			seen[why]++
			picked += len(l)
		}
		var all []int
		var where []string
		for _, n := range nodesByWords(s) {
			why, _ := whyByWords(s, p, n.Name)
			all = append(all, why)
			if why == 0 {
				where = append(where, n.Name)
			}
		}
		if got := feasible.All(s, p); !slices.Equal(got, all) {
			t.Fatalf("All(%+v, %+v): %v, want %v", s, p, got, all)
		}
		if got := feasible.Any(s, p); !slices.Equal(got, where) {
			t.Fatalf("Any(%+v, %+v): %v, want %v", s, p, got, where)
		}
	}
	for why := range api.WhyNode + 1 {
		if seen[why] < 20 {
			t.Errorf("%d is drawn %d times", why, seen[why])
		}
	}
	if picked < 100 {
		t.Errorf("picked: %d", picked)
	}
}

// P1: each call ends and none panics, of nothing and of many.
func TestManyMembers(t *testing.T) {
	none := api.State{Pods: make([]api.Pod, 3), Nodes: make([]api.Node, 3), Volumes: make([]api.Volume, 2), Claims: make([]api.Claim, 2), Classes: make([]api.Class, 2)}
	told(t, "objects of nothing", none, api.Pod{}, "", api.WhyPods)
	same(t, "objects of nothing: All", feasible.All(none, api.Pod{Claims: []string{""}}), []int{api.WhyPods})
	var s api.State
	for k := range 300 {
		s.Nodes = append(s.Nodes, node("n"+strconv.Itoa(k), strconv.Itoa(k%7)))
		for j := range 3 {
			s.Pods = append(s.Pods, on("n"+strconv.Itoa(k), "p"+strconv.Itoa(k)+"-"+strconv.Itoa(j), "x"))
		}
	}
	p := on("", "p", "x")
	p.Near, p.Spreads = by("zone", "x"), even("host", "x", 1)
	if all, where := feasible.All(s, p), feasible.Any(s, p); len(all) != 300 || slices.Max(all) != 0 || len(where) != 300 {
		t.Errorf("many: %v %v", all, where)
	}
	told(t, "many", s, p, "n299", 0)
	same(t, "many without", len(feasible.Without(s, feasible.Any(s, p)...).Pods), 900)
}
