package info_test

import (
	"math/rand"
	"reflect"
	"slices"
	"testing"

	"stevedore/api"
	"stevedore/info"
)

// small are amounts whose sums are never too great.
func small() []int { return []int{0, 1, 500, 1000, most / 16} }

// orders is l in each order.
func orders(l []api.Pod) [][]api.Pod {
	if len(l) == 0 {
		return [][]api.Pod{nil}
	}
	var out [][]api.Pod
	for k, p := range l {
		for _, rest := range orders(slices.Delete(slices.Clone(l), k, k+1)) {
			out = append(out, append([]api.Pod{p}, rest...))
		}
	}
	return out
}

// addAll adds one behind the other to the info of a node without pods.
func addAll(t *testing.T, n api.Node, pods []api.Pod) api.Info {
	t.Helper()
	i := info.Of(n)
	for _, p := range pods {
		var e api.Errno
		if i, e = info.Add(i, p); e != api.OK {
			t.Fatalf("Add(%+v): %d", p, e)
		}
	}
	return i
}

// 6.3: Add pod by pod comes to Of, in each order.
func TestAddComesToOf(t *testing.T) {
	n := node("n", api.Res{CPU: 9})
	l := []api.Pod{
		pod("a", 1, []int{3, 1}, "z", "x"), pod("b", 20, []int{2, 3}, "y"), pod("c", 300, nil), pod("d", 4000, []int{1, 1}, "x", "w", "x"), pod("aa", 5, []int{2}),
	}
	want := infoByWords(n, l)
	for _, pods := range orders(l) {
		same(t, "Of", info.Of(n, pods...), want)
		same(t, "Add by Add", addAll(t, n, pods), want)
	}
}

// 6.3: random pods, in an order of their own each time, some of them by Of and the others by Add.
func TestRandomAddComesToOf(t *testing.T) {
	r := rand.New(rand.NewSource(64))
	for range 1000 {
		n, pods := randomNode(r, "n"), distinctPods(r, r.Intn(9), small())
		want := info.Of(n, pods...)
		r.Shuffle(len(pods), func(a, b int) { pods[a], pods[b] = pods[b], pods[a] })
		same(t, "Of in another order", info.Of(n, pods...), want)
		same(t, "Add by Add", addAll(t, n, pods), want)
		k := r.Intn(len(pods) + 1)
		i := info.Of(n, pods[:k]...)
		for _, p := range pods[k:] {
			i, _ = info.Add(i, p)
		}
		same(t, "Of, then Add", i, want)
	}
}

// 6.3: a sum that is too great stops at the greatest amount, in whatever order.
func TestAddOfGreatSums(t *testing.T) {
	n := node("n", api.Res{})
	l := []api.Pod{pod("a", most, nil), pod("b", most-1, nil), pod("c", 5, nil), pod("d", -7, nil)}
	for _, pods := range orders(l) {
		same(t, "Add by Add", addAll(t, n, pods), api.Info{Node: n, Names: []string{"a", "b", "c", "d"}, Used: api.Res{CPU: most}})
	}
}

// 6.4: what was added and dropped again leaves the info as it was; so it does in each order of several.
func TestAddedAndDropped(t *testing.T) {
	n := node("n", api.Res{CPU: 9})
	there := []api.Pod{pod("b", 1, []int{1, 2}, "x"), pod("d", 20, []int{3}, "y", "z")}
	news := []api.Pod{pod("a", 300, []int{2, 4}, "x", "w"), pod("c", 4000, nil), pod("e", 5, []int{0, 3, 9}, "", "z")}
	was := info.Of(n, there...)
	for _, in := range orders(news) {
		for _, out := range orders(news) {
			i := was
			for _, p := range in {
				i, _ = info.Add(i, p)
			}
			same(t, "with all", i, infoByWords(n, append(slices.Clone(there), news...)))
			left := append(slices.Clone(news), there...)
			for _, p := range out {
				left = slices.DeleteFunc(left, func(q api.Pod) bool { return q.Name == p.Name })
				var e api.Errno
				if i, e = info.Drop(i, p, left); e != api.OK {
					t.Fatalf("Drop of %s: %d", p.Name, e)
				}
				same(t, "without "+p.Name, i, infoByWords(n, left))
			}
			same(t, "as it was", i, was)
		}
	}
}

// 6.4: random pods; a sum that stopped at the greatest amount goes back, too.
func TestRandomAddedAndDropped(t *testing.T) {
	r := rand.New(rand.NewSource(65))
	for range 2000 {
		n, pods := randomNode(r, "n"), distinctPods(r, 1+r.Intn(9), amounts())
		p, there := pods[0], pods[1:]
		was := info.Of(n, there...)
		i, e := info.Add(was, p)
		if e != api.OK {
			t.Fatalf("Add: %d", e)
		}
		rest := there
		if r.Intn(2) == 0 {
			rest = append(slices.Clone(pods), randomPod(r, "not there", amounts()))
		}
		back, e := info.Drop(i, p, rest)
		if e != api.OK {
			t.Fatalf("Drop: %d", e)
		}
		same(t, "as it was", back, was)
		if _, e := info.Drop(back, p, rest); e != api.ErrNone {
			t.Fatalf("Drop again: %d", e)
		}
		again, _ := info.Add(back, p)
		same(t, "added again", again, i)
	}
}

// 6.3, 6.5: All's infos are those of Of and of Add with the pods of each node.
func TestAllComesToOf(t *testing.T) {
	r := rand.New(rand.NewSource(66))
	names := []string{"m", "n", "o"}
	for range 500 {
		s := api.State{Pods: distinctPods(r, r.Intn(len(words())), small())}
		for _, name := range names {
			s.Nodes = append(s.Nodes, randomNode(r, name))
		}
		for k := range s.Pods {
			s.Pods[k].Node = oneOf(r, append([]string{"", "p"}, names...))
		}
		for k, i := range info.All(s) {
			there := slices.DeleteFunc(slices.Clone(s.Pods), func(p api.Pod) bool { return p.Node != names[k] })
			same(t, "Of", info.Of(s.Nodes[k], there...), i)
			same(t, "Add by Add", addAll(t, s.Nodes[k], there), i)
		}
	}
}

// Rule 4: nothing that is handed in is changed, not even what stands behind a list's end.
func TestHandedInStays(t *testing.T) {
	r := rand.New(rand.NewSource(67))
	for range 500 {
		n, p := randomNode(r, "n"), randomPod(r, oneOf(r, words()), amounts())
		pods := roomy(randomPods(r, 8, amounts()), pod("behind", 1, nil))
		for k := range pods {
			pods[k].Ports, pods[k].Claims = roomy(pods[k].Ports, -7), roomy(pods[k].Claims, "behind")
		}
		p.Ports, p.Claims = roomy(p.Ports, -8), roomy(p.Claims, "behind")
		s := api.State{Pods: pods, Nodes: roomy([]api.Node{n, randomNode(r, "m"), n}, node("behind", api.Res{}))}
		i := info.Of(n, pods...)
		i.Names, i.Ports, i.Disks = roomy(i.Names, "behind"), roomy(i.Ports, -9), roomy(i.Disks, "behind")
		now := struct {
			N    api.Node
			P    api.Pod
			Pods []api.Pod
			S    api.State
			I    api.Info
		}{n, p, pods, s, i}
		was := opened(now)
		info.Of(n, pods...)
		info.Add(i, p)
		info.Drop(i, p, pods)
		for _, name := range words() {
			info.Drop(i, api.Pod{Name: name}, pods)
		}
		info.Free(i)
		info.All(s)
		info.Clash(i, p)
		if got := opened(now); !reflect.DeepEqual(got, was) {
			t.Fatalf("changed: %+v, was %+v", got, was)
		}
	}
}

// Rule 4: what is handed back is the caller's own: written over, it changes nothing of the others.
func TestHandedBackIsOwn(t *testing.T) {
	n := node("n", api.Res{CPU: 9})
	a, b := on("n", pod("a", 1, []int{1}, "x")), on("n", pod("b", 20, []int{2}, "y"))
	bare := on("n", pod("c", 300, nil))
	pods := []api.Pod{a, b}
	s := api.State{Pods: pods, Nodes: []api.Node{n, node("m", api.Res{})}}
	was, wasS := info.Of(n, pods...), copied(s)
	want := copied(was)
	calls := map[string]func() api.Info{
		"Of":                  func() api.Info { return info.Of(n, pods...) },
		"Add":                 func() api.Info { i, _ := info.Add(was, pod("d", 1, []int{3}, "z")); return i },
		"Add of one that has": func() api.Info { i, _ := info.Add(was, pod("d", 1, []int{1}, "x")); return i },
		"Add of a bare one":   func() api.Info { i, _ := info.Add(was, bare); return i },
		"Drop":                func() api.Info { i, _ := info.Drop(was, a, pods); return i },
		"All":                 func() api.Info { return info.All(s)[0] },
	}
	for what, one := range calls {
		first, second := one(), one()
		kept := copied(second)
		spoil(first)
		same(t, what+": the info it came of", was, want)
		same(t, what+": another one", second, kept)
		same(t, what+": one that comes later", one(), kept)
		if !reflect.DeepEqual(s, wasS) {
			t.Fatalf("%s: what was handed in: %+v, was %+v", what, s, wasS)
		}
	}
	i, _ := info.Add(was, bare)
	kept := copied(i)
	spoil(was)
	same(t, "one that came of what was written over", i, kept)
}

// Rule 4: infos of one All, and those that came of one info by Add, do not share their lists.
func TestInfosAreApart(t *testing.T) {
	m, n := node("m", api.Res{}), node("n", api.Res{})
	s := api.State{Nodes: []api.Node{m, n}, Pods: []api.Pod{on("m", pod("a", 1, []int{1}, "x")), on("n", pod("b", 1, []int{1}, "x"))}}
	l := info.All(s)
	kept := copied(l[1])
	spoil(l[0])
	same(t, "beside what was written over", l[1], kept)
	was := info.Of(m, pod("b", 1, []int{5}, "m"))
	for range 3 {
		var e api.Errno
		if was, e = info.Add(was, pod("b"+was.Names[len(was.Names)-1], 1, []int{5 + len(was.Ports)}, "m"+was.Disks[len(was.Disks)-1])); e != api.OK {
			t.Fatalf("Add: %d", e)
		}
		one, _ := info.Add(was, pod("y", 1, []int{100}, "y"))
		two, _ := info.Add(was, pod("z", 1, []int{200}, "z"))
		if slices.Contains(one.Names, "z") || !slices.Contains(one.Names, "y") || !slices.Contains(one.Ports, 100) || !slices.Contains(one.Disks, "y") {
			t.Fatalf("the second Add is in the first one's: %+v", one)
		}
		kept := copied(two)
		spoil(one)
		same(t, "another Add's", two, kept)
	}
}
