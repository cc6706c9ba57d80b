package info_test

import (
	"fmt"
	"math"
	"math/rand"
	"slices"
	"testing"

	"stevedore/api"
	"stevedore/info"
)

// 6.1, 6.2, the chapter's example.
func TestExample(t *testing.T) {
	i := info.Of(api.Node{Name: "n", Give: api.Res{CPU: 4000}}, pod("a", 1000, nil), pod("b", 500, nil))
	if free := info.Free(i); free != (api.Res{CPU: 2500}) {
		t.Errorf("Free: %+v", free)
	}
}

// 6.1: no pods at all, whether they are left out, nil or empty.
func TestOfNone(t *testing.T) {
	n := node("n", api.Res{CPU: 4, Mem: 5, Disk: 6})
	want := api.Info{Node: n}
	same(t, "left out", info.Of(n), want)
	same(t, "nil", info.Of(n, []api.Pod(nil)...), want)
	same(t, "empty", info.Of(n, []api.Pod{}...), want)
	same(t, "no node either", info.Of(api.Node{}), api.Info{})
}

// 6.1: what Of tells, told out.
func TestOf(t *testing.T) {
	n := node("n", api.Res{CPU: 9, Mem: 9, Disk: 9})
	full := api.Pod{
		Name: "f", Want: api.Res{CPU: 1, Mem: 20, Disk: 300}, Ports: []int{443, 80}, Claims: []string{"d", "c"},
		Node: "elsewhere", Hope: "n", Priority: 3, Labels: []api.Label{{Key: "a", Value: "b"}},
	}
	for _, c := range []struct {
		what string
		pods []api.Pod
		want api.Info
	}{
		{"one", []api.Pod{pod("a", 5, []int{1}, "c")}, api.Info{
			Names: []string{"a"}, Used: api.Res{CPU: 5}, Ports: []int{1}, Disks: []string{"c"}}},
		{"each member of what is wanted", []api.Pod{full, {Name: "g", Want: api.Res{CPU: 2, Mem: 30, Disk: 400}}}, api.Info{
			Names: []string{"f", "g"}, Used: api.Res{CPU: 3, Mem: 50, Disk: 700}, Ports: []int{80, 443}, Disks: []string{"c", "d"}}},
		{"no ports, no claims, nothing wanted", []api.Pod{pod("b", 0, nil), pod("a", 0, []int{})}, api.Info{Names: []string{"a", "b"}}},
		{"no name", []api.Pod{pod("a", 1, nil), pod("", 2, nil)}, api.Info{Names: []string{"", "a"}, Used: api.Res{CPU: 3}}},
		{"no name, twice", []api.Pod{pod("", 1, nil), pod("", 2, nil)}, api.Info{Names: []string{""}, Used: api.Res{CPU: 1}}},
		{"the same ports and claims", []api.Pod{pod("a", 1, []int{2, 3}, "x", "y"), pod("b", 1, []int{3, 2}, "y", "x")}, api.Info{
			Names: []string{"a", "b"}, Used: api.Res{CPU: 2}, Ports: []int{2, 3}, Disks: []string{"x", "y"}}},
		{"some of the same", []api.Pod{pod("a", 1, []int{3, 1}, "x"), pod("b", 1, []int{2, 3}, "y", "x", "w")}, api.Info{
			Names: []string{"a", "b"}, Used: api.Res{CPU: 2}, Ports: []int{1, 2, 3}, Disks: []string{"w", "x", "y"}}},
		{"one's own twice", []api.Pod{pod("a", 1, []int{2, 1, 2}, "x", "w", "x")}, api.Info{
			Names: []string{"a"}, Used: api.Res{CPU: 1}, Ports: []int{1, 2}, Disks: []string{"w", "x"}}},
		{"all falling", []api.Pod{pod("c", 1, []int{9, 8}, "z", "y"), pod("b", 1, []int{7, 6}, "x", "w"), pod("a", 1, []int{5, 4}, "v", "u")},
			api.Info{Names: []string{"a", "b", "c"}, Used: api.Res{CPU: 3}, Ports: []int{4, 5, 6, 7, 8, 9}, Disks: []string{"u", "v", "w", "x", "y", "z"}}},
		{"ports by their numbers", []api.Pod{pod("a", 0, []int{10, 9, -1, 0, math.MaxInt, math.MinInt})}, api.Info{
			Names: []string{"a"}, Ports: []int{math.MinInt, -1, 0, 9, 10, math.MaxInt}}},
		{"words by their bytes", []api.Pod{pod("é", 0, nil, "b", "B", "9", "10"), pod("z", 0, nil, ""), pod("Z", 0, nil, "aa", "a")}, api.Info{
			Names: []string{"Z", "z", "é"}, Disks: []string{"", "10", "9", "B", "a", "aa", "b"}}},
	} {
		c.want.Node = n
		same(t, c.what, info.Of(n, c.pods...), c.want)
		same(t, c.what+", by words", infoByWords(n, c.pods), c.want)
	}
}

// 6.1: of a name that stands twice the first one counts, and nothing of the others, whichever comes between.
func TestOfFirstCounts(t *testing.T) {
	n := node("n", api.Res{})
	first, second := pod("a", 1, []int{1}, "x"), pod("a", 20, []int{2}, "y")
	other := pod("b", 300, []int{3}, "z")
	want := api.Info{Node: n, Names: []string{"a", "b"}, Used: api.Res{CPU: 301}, Ports: []int{1, 3}, Disks: []string{"x", "z"}}
	same(t, "beside each other", info.Of(n, first, second, other), want)
	same(t, "one between", info.Of(n, first, other, second), want)
	same(t, "three times", info.Of(n, other, first, second, second), want)
	same(t, "the same one", info.Of(n, first, first, other, other, first), want)
	want = api.Info{Node: n, Names: []string{"a", "b"}, Used: api.Res{CPU: 320}, Ports: []int{2, 3}, Disks: []string{"y", "z"}}
	same(t, "the other way round", info.Of(n, second, first, other), want)
}

// 6.1: where pods are bound does not count, nor what they hope for.
func TestOfBoundAnywhere(t *testing.T) {
	n := node("n", api.Res{})
	for _, where := range []string{"", "n", "m", "none"} {
		a, b := on(where, pod("a", 1, []int{1}, "x")), on("n", pod("b", 2, []int{2}, "y"))
		b.Hope = where
		same(t, where, info.Of(n, b, a), api.Info{
			Node: n, Names: []string{"a", "b"}, Used: api.Res{CPU: 3}, Ports: []int{1, 2}, Disks: []string{"x", "y"}})
	}
	twice := info.Of(n, pod("a", 1, nil), on("n", pod("a", 2, nil)))
	same(t, "the first of a name waits", twice, api.Info{Node: n, Names: []string{"a"}, Used: api.Res{CPU: 1}})
}

// 6.1: sums stop at the greatest amount, and each member by itself; what is no amount counts as the nearest one.
func TestOfGreatSums(t *testing.T) {
	n := node("n", api.Res{})
	for _, a := range amounts() {
		for _, b := range amounts() {
			for _, c := range amounts() {
				pods := []api.Pod{
					{Name: "a", Want: api.Res{CPU: a, Mem: b, Disk: c}},
					{Name: "b", Want: api.Res{CPU: b, Mem: c, Disk: 1}},
					{Name: "c", Want: api.Res{CPU: c, Mem: 1, Disk: b}},
				}
				same(t, "sums", info.Of(n, pods...), infoByWords(n, pods))
			}
		}
	}
	i := info.Of(n, pod("a", most-1, nil), pod("b", 1, nil))
	same(t, "just the greatest", i, api.Info{Node: n, Names: []string{"a", "b"}, Used: api.Res{CPU: most}})
	i, e := info.Add(i, pod("c", math.MaxInt, nil))
	same(t, "at the greatest", i, api.Info{Node: n, Names: []string{"a", "b", "c"}, Used: api.Res{CPU: most}})
	if e != api.OK {
		t.Errorf("Add at the greatest: %d", e)
	}
	same(t, "below nothing", info.Of(n, pod("a", math.MinInt, nil), pod("b", 5, nil)), api.Info{
		Node: n, Names: []string{"a", "b"}, Used: api.Res{CPU: 5}})
}

// 6.1: Add ahead of, between and behind those that are there.
func TestAdd(t *testing.T) {
	n := node("n", api.Res{CPU: 1})
	there := []api.Pod{pod("b", 10, []int{20, 40}, "f", "h"), pod("d", 100, []int{40}, "h")}
	for _, p := range []api.Pod{
		pod("a", 1, []int{10}, "e"), pod("c", 1, []int{30}, "g"), pod("e", 1, []int{50}, "i"), pod("", 1, nil, ""),
		pod("bb", 0, nil), pod("B", 1, []int{}), pod("c", 1, []int{40, 20}, "h", "f"), pod("c", 1, []int{50, 30, 50, 10, 30}, "i", "g", "i", "e"),
		on("m", pod("c", most, []int{-1}, "")), pod("c", -5, []int{20}, "f"),
	} {
		i := info.Of(n, there...)
		got, e := info.Add(i, p)
		if e != api.OK {
			t.Errorf("Add(%+v): %d", p, e)
		}
		same(t, "Add of "+p.Name, got, infoByWords(n, append(slices.Clone(there), p)))
	}
	got, e := info.Add(info.Of(n), pod("a", 1, []int{2, 1}, "c", "b"))
	if e != api.OK {
		t.Errorf("Add to none: %d", e)
	}
	same(t, "Add to none", got, api.Info{Node: n, Names: []string{"a"}, Used: api.Res{CPU: 1}, Ports: []int{1, 2}, Disks: []string{"b", "c"}})
	got, e = info.Add(api.Info{}, api.Pod{})
	if e != api.OK {
		t.Errorf("Add of nothing to nothing: %d", e)
	}
	same(t, "Add of nothing to nothing", got, api.Info{Names: []string{""}})
}

// 6.1: Add of a name that stands there, the first, a middle and the last one, whatever else the pod is.
func TestAddSame(t *testing.T) {
	n := node("n", api.Res{CPU: 1})
	i := info.Of(n, pod("", 1, nil), pod("a", 1, []int{1}, "x"), pod("b", 2, nil), pod("c", 3, nil))
	want := copied(i)
	for _, name := range []string{"", "a", "b", "c"} {
		for _, p := range []api.Pod{pod(name, 1, []int{1}, "x"), on("m", pod(name, 9, []int{9}, "y")), on("n", pod(name, 0, nil))} {
			got, e := info.Add(i, p)
			refused(t, "Add of "+name, got, e, api.ErrSame)
		}
	}
	same(t, "behind what was refused", i, want)
	for _, name := range []string{"A", "aa", "d", " "} {
		if _, e := info.Add(i, pod(name, 0, nil)); e != api.OK {
			t.Errorf("Add of %q: %d", name, e)
		}
	}
}

// 6.1: Drop of the first, of a middle one and of the last.
func TestDropOfEach(t *testing.T) {
	n := node("n", api.Res{CPU: 1})
	l := []api.Pod{pod("a", 1, []int{1, 2}, "x"), pod("b", 20, []int{2, 3}, "x", "y"), pod("c", 300, nil, "z"), pod("d", 4000, []int{3})}
	for k, p := range l {
		rest := slices.Delete(slices.Clone(l), k, k+1)
		i := info.Of(n, l...)
		for what, of := range map[string][]api.Pod{
			"without it": rest, "with it": l, "with it twice, and falling": reversed(append(slices.Clone(l), l...)),
			"with others": append([]api.Pod{pod("aa", 7, []int{7}, "7"), pod("", 7, []int{8}, "8")}, rest...),
		} {
			got, e := info.Drop(i, p, of)
			if e != api.OK {
				t.Errorf("Drop of %s, %s: %d", p.Name, what, e)
			}
			same(t, "Drop of "+p.Name+", "+what, got, infoByWords(n, rest))
		}
	}
}

func reversed(l []api.Pod) []api.Pod {
	out := slices.Clone(l)
	slices.Reverse(out)
	return out
}

// 6.1: what is left is what rest tells, and nothing that the info alone has.
func TestDropByRest(t *testing.T) {
	n := node("n", api.Res{CPU: 1})
	a, b, c := pod("a", 1, []int{1}, "x"), pod("b", 20, []int{2}, "y"), pod("c", 300, []int{3}, "z")
	i := info.Of(n, a, b, c)
	for _, x := range []struct {
		what string
		rest []api.Pod
		want []api.Pod
	}{
		{"nil", nil, nil},
		{"empty", []api.Pod{}, nil},
		{"b alone", []api.Pod{b}, nil},
		{"lacks c", []api.Pod{a}, []api.Pod{a}},
		{"lacks a", []api.Pod{b, c}, []api.Pod{c}},
		{"all others are strange", []api.Pod{pod("d", 5, []int{5}, "v"), pod("", 6, nil), pod("aa", 7, nil)}, nil},
		{"more", []api.Pod{c, pod("d", 5, []int{5}, "v"), a}, []api.Pod{a, c}},
		{"changed since", []api.Pod{pod("a", 9, []int{9}, "w"), c}, []api.Pod{pod("a", 9, []int{9}, "w"), c}},
		{"twice: the first one", []api.Pod{pod("a", 9, nil), a, c, pod("c", 8, []int{8}, "8")}, []api.Pod{pod("a", 9, nil), c}},
		{"bound elsewhere", []api.Pod{on("m", a), on("n", c)}, []api.Pod{a, c}},
	} {
		got, e := info.Drop(i, b, x.rest)
		if e != api.OK {
			t.Errorf("%s: %d", x.what, e)
		}
		same(t, x.what, got, infoByWords(n, x.want))
	}
	got, e := info.Drop(i, pod("b", 77, []int{1}, "x"), []api.Pod{a, c})
	if e != api.OK {
		t.Errorf("by its name alone: %d", e)
	}
	same(t, "by its name alone", got, infoByWords(n, []api.Pod{a, c}))
	got, e = info.Drop(info.Of(n, a), a, []api.Pod{a})
	if e != api.OK {
		t.Errorf("the only one: %d", e)
	}
	same(t, "the only one", got, api.Info{Node: n})
}

// 6.1: a sum that had stopped at the greatest amount is told anew by what is left.
func TestDropFromGreatSum(t *testing.T) {
	n := node("n", api.Res{})
	a, b, c := pod("a", most, nil), pod("b", most-3, nil), pod("c", 2, nil)
	got, e := info.Drop(info.Of(n, a, b, c), a, []api.Pod{a, b, c})
	if e != api.OK {
		t.Errorf("Drop: %d", e)
	}
	same(t, "Drop", got, api.Info{Node: n, Names: []string{"b", "c"}, Used: api.Res{CPU: most - 1}})
}

// 6.1: Drop of who does not stand there, whether rest has it or not.
func TestDropNone(t *testing.T) {
	n := node("n", api.Res{CPU: 1})
	a, b := pod("a", 1, []int{1}, "x"), pod("b", 2, nil)
	i := info.Of(n, a, b)
	want := copied(i)
	for _, name := range []string{"", "A", "aa", "c", " ", "a\x00"} {
		p := on("n", pod(name, 1, []int{1}, "x"))
		for _, rest := range [][]api.Pod{nil, {a, b}, {a, b, p}, {p}} {
			got, e := info.Drop(i, p, rest)
			refused(t, fmt.Sprintf("Drop of %q", name), got, e, api.ErrNone)
		}
	}
	same(t, "behind what was refused", i, want)
	got, e := info.Drop(info.Of(n), a, []api.Pod{a})
	refused(t, "Drop from none", got, e, api.ErrNone)
	got, e = info.Drop(api.Info{}, api.Pod{}, nil)
	refused(t, "Drop of nothing from nothing", got, e, api.ErrNone)
}

// 6.1: random pods and calls, held against the words.
func TestRandomCalls(t *testing.T) {
	r := rand.New(rand.NewSource(61))
	for range 3000 {
		n, pods, rest := randomNode(r, oneOf(r, words())), randomPods(r, 10, amounts()), randomPods(r, 10, amounts())
		i := info.Of(n, pods...)
		want := infoByWords(n, pods)
		same(t, "Of", i, want)
		p := randomPod(r, oneOf(r, words()), amounts())
		stands := slices.Contains(want.Names, p.Name)
		added, e := info.Add(i, p)
		if stands {
			refused(t, "Add", added, e, api.ErrSame)
		} else {
			same(t, "Add", added, infoByWords(n, append(slices.Clone(pods), p)))
		}
		dropped, e := info.Drop(i, p, rest)
		if !stands {
			refused(t, "Drop", dropped, e, api.ErrNone)
			continue
		}
		left := slices.DeleteFunc(slices.Clone(rest), func(q api.Pod) bool {
			return q.Name == p.Name || !slices.Contains(want.Names, q.Name)
		})
		same(t, "Drop", dropped, infoByWords(n, left))
	}
}

// P1: infos that no call made, with lists in any order: what they have counts as what they have.
func TestInfosOfOthers(t *testing.T) {
	n := node("n", api.Res{CPU: 10})
	i := api.Info{Node: n, Names: []string{"c", "a", "c"}, Used: api.Res{CPU: -4, Mem: math.MaxInt}, Ports: []int{9, 1, 9}, Disks: []string{"z", "x", "z"}}
	for _, name := range []string{"a", "c"} {
		got, e := info.Add(i, pod(name, 1, nil))
		refused(t, "Add of "+name, got, e, api.ErrSame)
		if _, e = info.Drop(i, pod(name, 1, nil), nil); e != api.OK {
			t.Errorf("Drop of %s: %d", name, e)
		}
	}
	got, e := info.Add(i, pod("b", 3, []int{5}, "y"))
	if e != api.OK {
		t.Errorf("Add: %d", e)
	}
	same(t, "Add", got, api.Info{
		Node: n, Names: []string{"a", "b", "c"}, Used: api.Res{CPU: 3, Mem: most}, Ports: []int{1, 5, 9}, Disks: []string{"x", "y", "z"}})
	got, e = info.Drop(i, pod("c", 0, nil), []api.Pod{pod("b", 1, nil), pod("a", 2, nil), pod("c", 3, nil)})
	if e != api.OK {
		t.Errorf("Drop: %d", e)
	}
	same(t, "Drop", got, api.Info{Node: n, Names: []string{"a"}, Used: api.Res{CPU: 2}})
	if !info.Clash(i, pod("p", 0, []int{1})) || info.Clash(i, pod("p", 0, []int{5})) {
		t.Error("Clash")
	}
	if free := info.Free(i); free != (api.Res{CPU: 10}) {
		t.Errorf("Free: %+v", free)
	}
}

// P1: lists may have any number of members.
func TestMany(t *testing.T) {
	n := node("n", api.Res{CPU: most})
	const many = 20000
	pods := make([]api.Pod, 0, many)
	for k := range many {
		pods = append(pods, pod(fmt.Sprint(many-k), 1, []int{many - k, k}, fmt.Sprint(k)))
	}
	i := info.Of(n, pods...)
	if len(i.Names) != many || len(i.Ports) != many+1 || len(i.Disks) != many || i.Used.CPU != many {
		t.Fatalf("Of: %d %d %d %d", len(i.Names), len(i.Ports), len(i.Disks), i.Used.CPU)
	}
	j, e := info.Drop(i, pods[5], pods)
	if e != api.OK || len(j.Names) != many-1 {
		t.Fatalf("Drop: %d %d", len(j.Names), e)
	}
	if j, e = info.Add(j, pods[5]); e != api.OK {
		t.Fatalf("Add: %d", e)
	}
	same(t, "added again", j, i)
}
