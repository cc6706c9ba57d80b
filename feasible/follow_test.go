package feasible_test

import (
	"fmt"
	"math/rand"
	"slices"
	"strconv"
	"testing"

	"stevedore/api"
	"stevedore/feasible"
	"stevedore/label"
	"stevedore/volume"
)

// row is pods that wait, all alike but for their names, and what they are made by.
func row(n int, with func(k int, p *api.Pod)) []api.Pod {
	var l []api.Pod
	for k := range n {
		p := api.Pod{Name: "p" + strconv.Itoa(k)}
		with(k, &p)
		l = append(l, p)
	}
	return l
}

// 11.3: binds one behind another, up to what the node gives, and one more.
func TestUpToWhatANodeGives(t *testing.T) {
	n := node("n", "1")
	n.Give, n.Pods, n.Disks = api.Res{CPU: 30, Mem: 30, Disk: 30}, 4, 3
	for what, c := range map[string]struct {
		fit, why int
		pods     []api.Pod
	}{
		"CPU":            {3, api.WhyCPU, row(4, func(k int, p *api.Pod) { p.Want.CPU = 10 })},
		"CPU, one fewer": {2, api.WhyCPU, row(3, func(k int, p *api.Pod) { p.Want.CPU = 10 + k })},
		"memory":         {3, api.WhyMem, row(4, func(k int, p *api.Pod) { p.Want.Mem = 10 })},
		"disk":           {3, api.WhyDisk, row(4, func(k int, p *api.Pod) { p.Want.Disk = 10 })},
		"pods":           {4, api.WhyPods, row(5, func(k int, p *api.Pod) {})},
		"claims":         {3, api.WhyDisks, row(4, func(k int, p *api.Pod) { p.Claims = []string{"c" + strconv.Itoa(k)} })},
		"claims, some of them two pods'": {2, api.WhyDisks, row(3, func(k int, p *api.Pod) {
			p.Claims = []string{"c" + strconv.Itoa(k), "c" + strconv.Itoa(k+1)}
		})},
		"ports": {3, api.WhyPorts, row(4, func(k int, p *api.Pod) { p.Ports = []int{1 + k%3, 10 + k} })},
	} {
		s := kept([]api.Node{n}, c.pods...)
		s.Claims, s.Volumes = nil, nil
		for k := range 5 {
			s.Claims = append(s.Claims, api.Claim{Name: "c" + strconv.Itoa(k), Class: "k"})
			s.Volumes = append(s.Volumes, api.Volume{Name: "v" + strconv.Itoa(k), Class: "k"})
		}
		for k, p := range c.pods {
			u, did := allowed(t, s, p.Name, "n")
			if did != (k < c.fit) {
				t.Errorf("%s: the bind %d: %t", what, k, did)
			}
			within(t, s, u)
			s = u
		}
		told(t, what+": one more", s, c.pods[c.fit], "n", c.why)
	}
}

// 11.3: a port twice: not on one node, but on two.
func TestAPortTwice(t *testing.T) {
	pods := row(3, func(k int, p *api.Pod) { p.Ports = []int{80} })
	s := kept([]api.Node{node("m", "1"), node("n", "1")}, pods...)
	s, _ = allowed(t, s, "p0", "n")
	told(t, "there", s, pods[1], "n", api.WhyPorts)
	told(t, "elsewhere", s, pods[1], "m", 0)
	s, _ = allowed(t, s, "p1", "m")
	same(t, "nowhere more", feasible.All(s, pods[2]), []int{api.WhyPorts, api.WhyPorts})
	same(t, "when one was taken away", feasible.Any(feasible.Without(s, "p0"), pods[2]), []string{"n"})
}

// load is what stands on a node, counted pod by pod; twice is how many of its ports two pods have.
type load struct {
	pods, cpu, mem, disk, claims, twice int
}

func loadOf(s api.State, name string) load {
	var l load
	ports, claims := map[int]int{}, map[string]int{}
	for k, p := range s.Pods {
		if p.Node != name || podAt(s, p.Name) != k {
			continue
		}
		l.pods++
		l.cpu, l.mem, l.disk = l.cpu+p.Want.CPU, l.mem+p.Want.Mem, l.disk+p.Want.Disk
		for _, port := range p.Ports {
			ports[port]++
			if ports[port] == 2 {
				l.twice++
			}
		}
		for _, c := range p.Claims {
			claims[c]++
		}
	}
	l.claims = len(claims)
	return l
}

// within asks that no node has more than it gives behind a bind, if it had not ahead of it.
func within(t *testing.T, s, u api.State) {
	t.Helper()
	for _, n := range nodesByWords(s) {
		was, is := loadOf(s, n.Name), loadOf(u, n.Name)
		for what, m := range map[string][3]int{
			"pods": {was.pods, is.pods, n.Pods}, "claims": {was.claims, is.claims, n.Disks}, "ports": {was.twice, is.twice, 0},
			"CPU": {was.cpu, is.cpu, n.Give.CPU}, "memory": {was.mem, is.mem, n.Give.Mem}, "disk": {was.disk, is.disk, n.Give.Disk},
		} {
			if m[0] <= m[2] && m[1] > m[2] {
				t.Fatalf("%s on %s: %d, and it gives %d: %+v", what, n.Name, m[1], m[2], u)
			}
		}
	}
}

// 11.3: random binds that may be, from states in which some nodes have too much already; volumes and claims fit together still.
func TestRandomAllowedBinds(t *testing.T) {
	r := rand.New(rand.NewSource(1131))
	done, given := 0, 0
	for n := range 1500 {
		s := soundState(r)
		if n%3 == 0 {
			for _, p := range some(r, s.Pods, 3) {
				s.Pods[podAt(s, p.Name)].Node = oneOf(r, nodeNames())
			}
		}
		for range 25 {
			name := oneOf(r, podNames())
			if podAt(s, name) < 0 {
				continue
			}
			u, did := allowed(t, s, name, anyNode(r))
			within(t, s, u)
			if did {
				done++
			}
			s = u
		}
		if volume.Check(s) != 0 {
			t.Fatalf("claims and volumes: %+v", s)
		}
		given += len(s.Volumes) - len(volume.Free(s))
	}
	if done < 3000 || given < 300 {
		t.Errorf("drawn: %d %d", done, given)
	}
}

// 11.4: one keeps apart from the other: whoever comes first, the other one may not come into its domain.
func TestApartBothWays(t *testing.T) {
	a, b := on("", "a", "x"), on("", "b", "y")
	a.Apart = by("zone", "y")
	nodes := []api.Node{node("m", "1"), node("n", "1"), node("o", "2")}
	s := kept(nodes, a, b)
	for _, where := range []string{"m", "n"} {
		first, _ := allowed(t, s, "a", where)
		same(t, "a first, on "+where, feasible.All(first, b), []int{api.WhyOthers, api.WhyOthers, 0})
		first, _ = allowed(t, s, "b", where)
		same(t, "b first, on "+where, feasible.All(first, a), []int{api.WhyApart, api.WhyApart, 0})
	}
	both := kept(nodes, on("", "a", "x"), on("", "b", "x"))
	both.Pods[0].Apart, both.Pods[1].Apart = by("zone", "x"), by("zone", "x")
	first, _ := allowed(t, both, "b", "o")
	same(t, "both keep apart", feasible.All(first, both.Pods[0]), []int{0, 0, api.WhyApart})
	same(t, "taken away again", feasible.All(feasible.Without(first, "b"), both.Pods[0]), []int{0, 0, 0})
	bare := kept([]api.Node{{Name: "n", Pods: 9}}, a, b)
	first, _ = allowed(t, bare, "a", "n")
	told(t, "no domain", first, b, "n", 0)
}

// together is who keeps apart from whom, and is in one domain with it.
func together(s api.State) []string {
	var out []string
	for _, p := range s.Pods {
		for _, q := range s.Pods {
			if p.Name == q.Name || p.Node == "" || q.Node == "" {
				continue
			}
			for _, x := range p.Apart {
				a, there := label.Get(labelsByWords(s, p.Node), x.Key)
				b, too := label.Get(labelsByWords(s, q.Node), x.Key)
				if there && too && a == b && label.Match(q.Labels, x.Reqs) {
					out = append(out, p.Name+" "+q.Name)
				}
			}
		}
	}
	return out
}

// 11.4: random binds that may be: no two of which one keeps apart from the other come into one domain.
func TestRandomApart(t *testing.T) {
	r := rand.New(rand.NewSource(114))
	kinds := map[int]int{}
	for range 1500 {
		s := soundState(r)
		for k := range s.Pods {
			s.Pods[k].Near, s.Pods[k].Spreads, s.Pods[k].Claims = nil, nil, nil
		}
		for range 30 {
			name, where := oneOf(r, podNames()), oneOf(r, nodeNames())
			if at := podAt(s, name); at >= 0 && s.Pods[at].Node == "" {
				why, _ := feasible.Check(s, s.Pods[at], where)
				kinds[why]++
				s, _ = allowed(t, s, name, where)
			}
		}
		if l := together(s); len(l) > 0 {
			t.Fatalf("%v: %+v", l, s)
		}
	}
	if kinds[0] < 3000 || kinds[api.WhyApart] < 300 || kinds[api.WhyOthers] < 300 {
		t.Errorf("drawn: %v", kinds)
	}
}

// unasked asks whether q is nobody to p: p asks nothing about it, it asks nothing of others, and it does not stand on that node.
func unasked(p, q api.Pod, name string) bool {
	asked := meetsOne(q.Labels, p.Near) || meetsOne(q.Labels, p.Apart) || spreadsIt(q.Labels, p.Spreads)
	return !asked && len(q.Near)+len(q.Apart)+len(q.Spreads) == 0 && q.Node != name
}

// 11.5: by hand: pods elsewhere that use all there is change nothing.
func TestElsewhereByHand(t *testing.T) {
	s, p := full(), narrow()
	hog := api.Pod{Name: "hog", Labels: labels("app", "hog"), Want: api.Res{CPU: 1000, Mem: 1000, Disk: 1000}, Ports: []int{443}, Claims: []string{"b", "c"}}
	for _, where := range []string{"", "o", "gone"} {
		u := s
		u.Pods = append(slices.Clone(s.Pods), onNode(hog, where))
		planned(t, "with one on "+where, u, p, "n", 0, picks("b", "vb"))
		for _, x := range reasons() {
			v, q := full(), narrow()
			x.cause(&v, &q)
			v.Pods = append(v.Pods, onNode(hog, where))
			told(t, fmt.Sprintf("reason %d, with one on %s", x.why, where), v, q, "n", x.why)
		}
	}
	u := s
	u.Pods = append(slices.Clone(s.Pods), onNode(hog, "n"))
	told(t, "with one there", u, p, "n", api.WhyPorts)
}

// 11.5: random ones, added wherever in the list, and taken away.
func TestRandomElsewhere(t *testing.T) {
	r := rand.New(rand.NewSource(115))
	seen, less := map[int]int{}, 0
	for range 8000 {
		s := anyState(r)
		p, where := anyPod(r, s), anyNode(r)
		why, l := feasible.Check(s, p, where)
		u := copied(s)
		for k := range 3 {
			q := randomPod(r, "more"+strconv.Itoa(k))
			q.Near, q.Apart, q.Spreads, q.Node = nil, nil, nil, anyNode(r)
			if unasked(p, q, where) {
				u.Pods = slices.Insert(u.Pods, r.Intn(len(u.Pods)+1), q)
			}
		}
		if got, gotL := feasible.Check(u, p, where); got != why || !slices.Equal(gotL, l) {
			t.Fatalf("Check(%+v, %+v, %s): %d %v, and without them %d %v", u, p, where, got, gotL, why, l)
		}
		var names []string
		for k, q := range s.Pods {
			if podAt(s, q.Name) == k && unasked(p, q, where) {
				names = append(names, q.Name)
			}
		}
		if got, gotL := feasible.Check(feasible.Without(s, names...), p, where); got != why || !slices.Equal(gotL, l) {
			t.Fatalf("Check(%+v, %+v, %s): %d %v, and without %v %d %v", s, p, where, why, l, names, got, gotL)
		}
		seen[why] += len(u.Pods) - len(s.Pods)
		less += len(names)
	}
	for why := range api.WhyNode + 1 {
		if seen[why] < 5 {
			t.Errorf("%d is drawn with %d more", why, seen[why])
		}
	}
	if less < 1000 {
		t.Errorf("taken away: %d", less)
	}
}

// 11.6: by hand: who is in the way may be taken away; who is wanted near, or counts for a spread, may not.
func TestTakenAwayByHand(t *testing.T) {
	s, p := full(), narrow()
	s.Pods = append(s.Pods, on("n", "t", "t"), on("o", "u", "t"))
	s.Nodes[0].Pods++
	planned(t, "ahead", s, p, "n", 0, picks("b", "vb"))
	planned(t, "without t and u", feasible.Without(s, "t", "u"), p, "n", 0, picks("b", "vb"))
	told(t, "without who is near", feasible.Without(s, "r"), p, "n", api.WhyNear)
	told(t, "without who counts in the other zone", feasible.Without(s, "s"), p, "n", api.WhySpread)
	p.Near, p.Spreads = nil, nil
	for _, names := range [][]string{{"q"}, {"r"}, {"s"}, {"q", "r", "s", "t", "u"}, {"not there"}, nil} {
		planned(t, fmt.Sprintf("wants nobody, without %v", names), feasible.Without(s, names...), p, "n", 0, picks("b", "vb"))
	}
	p.Ports = []int{80}
	told(t, "one is in the way", s, p, "n", api.WhyPorts)
	planned(t, "and is taken away", feasible.Without(s, "q"), p, "n", 0, picks("b", "vb"))
}

// 11.6: random ones: who may, may still without any of those that it does not want near and that no spread of it counts.
func TestRandomTakenAway(t *testing.T) {
	r := rand.New(rand.NewSource(116))
	asked, wanting := 0, 0
	for range 20000 {
		s := anyState(r)
		p, where := anyPod(r, s), oneOf(r, nodeNames())
		if why, _ := feasible.Check(s, p, where); why != 0 {
			continue
		}
		var names []string
		for _, q := range s.Pods {
			twins := slices.ContainsFunc(s.Pods, func(x api.Pod) bool {
				return x.Name == q.Name && (meetsOne(x.Labels, p.Near) || spreadsIt(x.Labels, p.Spreads))
			})
			if !twins && r.Intn(3) > 0 {
				names = append(names, q.Name)
			}
		}
		if why, _ := feasible.Check(feasible.Without(s, names...), p, where); why != 0 {
			t.Fatalf("Check(%+v, %+v, %s) without %v: %d", s, p, where, names, why)
		}
		if len(names) > 0 {
			asked++
			if len(p.Near)+len(p.Spreads) > 0 {
				wanting++
			}
		}
	}
	if asked < 1000 || wanting < 200 {
		t.Errorf("drawn: %d %d", asked, wanting)
	}
}
