package info_test

import (
	"math"
	"math/rand"
	"slices"
	"testing"

	"stevedore/api"
	"stevedore/info"
)

// 6.2: Give less Used, member by member, at least nothing.
func TestFree(t *testing.T) {
	for _, c := range []struct{ give, used, want api.Res }{
		{api.Res{}, api.Res{}, api.Res{}},
		{api.Res{CPU: 10, Mem: 200, Disk: 3000}, api.Res{}, api.Res{CPU: 10, Mem: 200, Disk: 3000}},
		{api.Res{CPU: 10, Mem: 200, Disk: 3000}, api.Res{CPU: 1, Mem: 20, Disk: 300}, api.Res{CPU: 9, Mem: 180, Disk: 2700}},
		{api.Res{CPU: 10, Mem: 20, Disk: 30}, api.Res{CPU: 10, Mem: 19, Disk: 31}, api.Res{Mem: 1}},
		{api.Res{CPU: 1, Mem: 1, Disk: 1}, api.Res{CPU: most, Mem: 2, Disk: 1}, api.Res{}},
		{api.Res{CPU: most, Mem: most, Disk: most}, api.Res{CPU: most, Mem: most - 1}, api.Res{Mem: 1, Disk: most}},
		{api.Res{CPU: math.MaxInt, Mem: -5, Disk: 5}, api.Res{CPU: 1, Mem: 1, Disk: math.MinInt}, api.Res{CPU: most - 1, Disk: 5}},
	} {
		i := api.Info{Node: node("n", c.give), Used: c.used, Names: []string{"a"}}
		if got := info.Free(i); got != c.want {
			t.Errorf("Free of %+v less %+v: %+v, want %+v", c.give, c.used, got, c.want)
		}
	}
}

// 6.2: what is free of what pods leave; a node that gives less than is used has nothing.
func TestFreeOfPods(t *testing.T) {
	n := node("n", api.Res{CPU: 1000, Mem: 1000, Disk: 1000})
	a := api.Pod{Name: "a", Want: api.Res{CPU: 600, Mem: 600, Disk: 600}}
	b := api.Pod{Name: "b", Want: api.Res{CPU: 600, Mem: 400, Disk: 399}}
	for _, c := range []struct {
		pods []api.Pod
		want api.Res
	}{
		{nil, n.Give},
		{[]api.Pod{a}, api.Res{CPU: 400, Mem: 400, Disk: 400}},
		{[]api.Pod{a, a}, api.Res{CPU: 400, Mem: 400, Disk: 400}},
		{[]api.Pod{b, a}, api.Res{Disk: 1}},
	} {
		if got := info.Free(info.Of(n, c.pods...)); got != c.want {
			t.Errorf("Free with %d: %+v, want %+v", len(c.pods), got, c.want)
		}
	}
	if got := info.Free(api.Info{}); got != (api.Res{}) {
		t.Errorf("Free of nothing: %+v", got)
	}
}

// 6.2: a state without objects; nodes without pods; pods without nodes.
func TestAllOfLittle(t *testing.T) {
	m, n := node("m", api.Res{CPU: 1}), node("n", api.Res{CPU: 2})
	a, b := on("n", pod("a", 1, []int{1}, "x")), pod("b", 1, []int{2}, "y")
	for _, c := range []struct {
		what string
		s    api.State
		want []api.Info
	}{
		{"nothing", api.State{}, nil},
		{"empty lists", api.State{Pods: []api.Pod{}, Nodes: []api.Node{}}, nil},
		{"nodes alone", api.State{Nodes: []api.Node{m, n}}, []api.Info{{Node: m}, {Node: n}}},
		{"pods alone", api.State{Pods: []api.Pod{a, b}}, nil},
		{"other kinds alone", api.State{
			Volumes: []api.Volume{{Name: "v"}}, Claims: []api.Claim{{Name: "x"}}, Classes: []api.Class{{Name: "k"}}, Budgets: []api.Budget{{Name: "g"}},
		}, nil},
		{"bound to none that is there", api.State{Pods: []api.Pod{a, b}, Nodes: []api.Node{m}}, []api.Info{{Node: m}}},
		{"one waits", api.State{Pods: []api.Pod{a, b}, Nodes: []api.Node{m, n}}, []api.Info{
			{Node: m}, {Node: n, Names: []string{"a"}, Used: api.Res{CPU: 1}, Ports: []int{1}, Disks: []string{"x"}}}},
	} {
		sameAll(t, c.what, info.All(c.s), c.want)
	}
}

// 6.2: each node in the state's order, with its own pods alone; a hope is no bind.
func TestAll(t *testing.T) {
	m, n, o := node("m", api.Res{CPU: 1}), node("n", api.Res{CPU: 2}), node("o", api.Res{CPU: 3})
	hopes := pod("e", 10000, []int{5}, "v")
	hopes.Hope = "o"
	pods := []api.Pod{
		on("o", pod("a", 1, []int{2, 1}, "y", "x")), on("m", pod("b", 10, []int{2}, "z")),
		on("o", pod("c", 100, []int{3, 2}, "x", "w")), on("p", pod("d", 1000, []int{4}, "v")), hopes, on("m ", pod("f", 5, nil)),
	}
	infoM := api.Info{Node: m, Names: []string{"b"}, Used: api.Res{CPU: 10}, Ports: []int{2}, Disks: []string{"z"}}
	infoO := api.Info{Node: o, Names: []string{"a", "c"}, Used: api.Res{CPU: 101}, Ports: []int{1, 2, 3}, Disks: []string{"w", "x", "y"}}
	sameAll(t, "rising", info.All(api.State{Pods: pods, Nodes: []api.Node{m, n, o}}), []api.Info{infoM, {Node: n}, infoO})
	sameAll(t, "falling", info.All(api.State{Pods: reversed(pods), Nodes: []api.Node{o, n, m}}), []api.Info{infoO, {Node: n}, infoM})
}

// 6.2, 6.5: where a name stands twice in the state, the first one counts, and the other one stands nowhere.
func TestAllOfTwice(t *testing.T) {
	m, n := node("m", api.Res{CPU: 1}), node("n", api.Res{CPU: 2})
	again := node("m", api.Res{CPU: 9})
	first, second, waits := on("m", pod("a", 1, []int{1}, "x")), on("n", pod("a", 20, []int{2}, "y")), pod("a", 300, nil)
	infoM := api.Info{Node: m, Names: []string{"a"}, Used: api.Res{CPU: 1}, Ports: []int{1}, Disks: []string{"x"}}
	infoN := api.Info{Node: n, Names: []string{"a"}, Used: api.Res{CPU: 20}, Ports: []int{2}, Disks: []string{"y"}}
	for _, c := range []struct {
		what string
		s    api.State
		want []api.Info
	}{
		{"a pod on two nodes", api.State{Pods: []api.Pod{first, second}, Nodes: []api.Node{m, n}}, []api.Info{infoM, {Node: n}}},
		{"the other way round", api.State{Pods: []api.Pod{second, first}, Nodes: []api.Node{m, n}}, []api.Info{{Node: m}, infoN}},
		{"the first waits", api.State{Pods: []api.Pod{waits, second}, Nodes: []api.Node{m, n}}, []api.Info{{Node: m}, {Node: n}}},
		{"the second waits", api.State{Pods: []api.Pod{first, waits}, Nodes: []api.Node{m, n}}, []api.Info{infoM, {Node: n}}},
		{"the first is bound to none", api.State{Pods: []api.Pod{on("o", first), second}, Nodes: []api.Node{m, n}}, []api.Info{{Node: m}, {Node: n}}},
		{"on one node", api.State{Pods: []api.Pod{first, on("m", second)}, Nodes: []api.Node{m, n}}, []api.Info{infoM, {Node: n}}},
		{"a node", api.State{Pods: []api.Pod{first}, Nodes: []api.Node{m, again, n}}, []api.Info{infoM, {Node: n}}},
		{"a node, with others between", api.State{Pods: []api.Pod{first}, Nodes: []api.Node{m, n, again, n}}, []api.Info{infoM, {Node: n}}},
	} {
		sameAll(t, c.what, info.All(c.s), c.want)
		sameAll(t, c.what+", by words", allByWords(c.s), c.want)
	}
}

// 6.2: who waits stands nowhere, even if a node has no name.
func TestAllOfNodeWithoutName(t *testing.T) {
	n := node("", api.Res{CPU: 2})
	s := api.State{Pods: []api.Pod{pod("a", 1, nil), on("n", pod("b", 1, nil))}, Nodes: []api.Node{n}}
	sameAll(t, "no name", info.All(s), []api.Info{{Node: n}})
}

// 6.2: random states, held against the words; 6.5: each bound pod of a node that is there once.
func TestRandomStates(t *testing.T) {
	r := rand.New(rand.NewSource(62))
	for range 3000 {
		s := randomState(r)
		got := info.All(s)
		sameAll(t, "All", got, allByWords(s))
		eachOnce(t, s, got)
	}
}

func eachOnce(t *testing.T, s api.State, infos []api.Info) {
	t.Helper()
	times := map[string]int{}
	for _, i := range infos {
		for _, name := range i.Names {
			times[name]++
		}
	}
	seen := map[string]bool{}
	for _, p := range s.Pods {
		if seen[p.Name] {
			continue
		}
		seen[p.Name] = true
		there := p.Node != "" && slices.ContainsFunc(s.Nodes, func(n api.Node) bool { return n.Name == p.Node })
		if there != (times[p.Name] == 1) || times[p.Name] > 1 {
			t.Fatalf("%q on %q stands %d times, with a node there: %t", p.Name, p.Node, times[p.Name], there)
		}
		delete(times, p.Name)
	}
	if len(times) > 0 {
		t.Fatalf("who is in no state: %+v", times)
	}
}

// 6.2: one of the pod's ports is in use, or none; claims, names and what is wanted do not count.
func TestClash(t *testing.T) {
	n := node("n", api.Res{})
	i := info.Of(n, pod("a", 1, []int{443, 80}, "x"), pod("b", 1, []int{8080}))
	for _, c := range []struct {
		what string
		i    api.Info
		p    api.Pod
		want bool
	}{
		{"no ports", i, pod("p", 0, nil), false},
		{"empty ports", i, pod("p", 0, []int{}), false},
		{"no ports, its own name", i, pod("a", 1, nil, "x"), false},
		{"the first", i, pod("p", 0, []int{80}), true},
		{"a middle one", i, pod("p", 0, []int{443}), true},
		{"the last", i, pod("p", 0, []int{8080}), true},
		{"others", i, pod("p", 0, []int{0, 79, 81, 442, 444, 8079, 8081, -80}), false},
		{"the first of several", i, pod("p", 0, []int{80, 1, 2}), true},
		{"one between others", i, pod("p", 0, []int{1, 443, 2}), true},
		{"the last of several, falling", i, pod("p", 0, []int{9000, 8999, 8080}), true},
		{"all", i, pod("p", 0, []int{8080, 443, 80}), true},
		{"its own name", i, pod("a", 0, []int{80}), true},
		{"one twice", i, pod("p", 0, []int{5, 5}), false},
		{"nobody there", info.Of(n), pod("p", 0, []int{80}), false},
		{"nobody with ports there", info.Of(n, pod("a", 1, nil)), pod("p", 0, []int{0, 80}), false},
		{"nothing", api.Info{}, api.Pod{}, false},
		{"no port of many", info.Of(n, pod("a", 1, []int{0, math.MinInt, math.MaxInt})), pod("p", 0, []int{-1, 1}), false},
		{"ports at the ends", info.Of(n, pod("a", 1, []int{0, math.MinInt, math.MaxInt})), pod("p", 0, []int{1, math.MinInt}), true},
	} {
		if got := info.Clash(c.i, c.p); got != c.want {
			t.Errorf("%s: %t", c.what, got)
		}
	}
}

// 6.2: random pods and infos: Clash tells whether both have one.
func TestRandomClash(t *testing.T) {
	r := rand.New(rand.NewSource(63))
	told := map[bool]int{}
	for range 3000 {
		pods := randomPods(r, 3, amounts())
		i, p := info.Of(randomNode(r, "n"), pods...), randomPod(r, "p", amounts())
		want := false
		for _, port := range infoByWords(i.Node, pods).Ports {
			for _, mine := range p.Ports {
				want = want || port == mine
			}
		}
		if got := info.Clash(i, p); got != want {
			t.Fatalf("Clash(%+v, %+v): %t", i.Ports, p.Ports, got)
		}
		told[want]++
	}
	if told[true] < 100 || told[false] < 100 {
		t.Errorf("drawn: %+v", told)
	}
}
