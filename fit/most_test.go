package fit_test

import (
	"math"
	"math/rand"
	"testing"

	"stevedore/api"
	"stevedore/fit"
)

// 7.2: the limit: others than 0 to 1000 count as the nearest of these.
func TestMostLimits(t *testing.T) {
	i := wide()
	i.Node.Pods = 5000
	for _, p := range []api.Pod{{Name: "p"}, {Name: "p", Want: api.Res{CPU: 1, Mem: 2, Disk: 3}}} {
		for _, c := range []struct{ limit, want int }{
			{math.MinInt, 0}, {-1000, 0}, {-1, 0}, {0, 0}, {1, 1}, {2, 2}, {9, 9}, {999, 999}, {1000, 1000}, {1001, 1000}, {5000, 1000}, {math.MaxInt, 1000},
		} {
			tells(t, "much room", p, i, c.limit, c.want)
		}
	}
	i.Node.Pods = 1
	for _, c := range []struct{ limit, want int }{{math.MinInt, 0}, {-1, 0}, {0, 0}, {1, 1}, {2, 1}, {1000, 1}, {1001, 1}, {math.MaxInt, 1}} {
		tells(t, "room for one", api.Pod{Name: "p"}, i, c.limit, c.want)
	}
}

// 7.2: where a reason is from the beginning nobody comes, whatever the limit.
func TestMostWithReason(t *testing.T) {
	for set := 1; set < 1<<len(order()); set++ {
		p, i := against(set)
		for _, limit := range []int{-1, 0, 1, 9, 1000, math.MaxInt} {
			tells(t, "a reason", p, i, limit, 0)
		}
		p.Ports = nil
		if set != 1<<(api.WhyPorts-1) {
			tells(t, "a reason, no ports", p, i, 9, 0)
		}
	}
}

// 7.2: the number of pods ends it.
func TestMostByPods(t *testing.T) {
	for _, c := range []struct{ there, takes, want int }{
		{0, 1, 1}, {0, 2, 2}, {1, 2, 1}, {2, 2, 0}, {3, 2, 0}, {0, 0, 0}, {0, -3, 0}, {2, math.MinInt, 0},
		{0, 7, 7}, {3, 7, 4}, {0, 1000, 1000}, {1, 1000, 999}, {1, 1001, 1000}, {0, math.MaxInt, 1000}, {5, math.MaxInt, 1000},
	} {
		i := wide()
		i.Node.Pods, i.Names = c.takes, names(c.there)
		tells(t, "nothing wanted", api.Pod{Name: "p"}, i, 1000, c.want)
		tells(t, "little wanted", api.Pod{Name: "p", Want: api.Res{CPU: 1, Mem: 1, Disk: 1}}, i, 1000, c.want)
	}
}

// 7.2: CPU, Mem or Disk ends it, each alone.
func TestMostByAmounts(t *testing.T) {
	for _, m := range members() {
		for _, c := range []struct{ give, used, want, most int }{
			{1000, 0, 600, 1}, {1000, 0, 500, 2}, {1000, 0, 501, 1}, {1000, 0, 499, 2}, {1000, 0, 1000, 1}, {1000, 0, 1001, 0},
			{1000, 1, 500, 1}, {1000, 0, 333, 3}, {1000, 0, 334, 2}, {1000, 400, 200, 3}, {1000, 401, 200, 2}, {1000, 1000, 1, 0},
			{1000, 0, 1, 1000}, {999, 0, 1, 999}, {1001, 0, 1, 1000}, {1000, 1001, 1, 0}, {1000, most, 1, 0}, {0, 0, 1, 0}, {-9, 0, 1, 0},
			{most, 0, most, 1}, {most, 0, most / 2, 2}, {most, 0, most/2 + 1, 1}, {most, 0, most + 1, 1}, {most + 1, 0, math.MaxInt, 1},
			{math.MaxInt, 0, most / 4, 4}, {most, 1, most, 0}, {most, most - 5, 2, 2}, {10, -10, 3, 3}, {10, math.MinInt, 3, 3},
			{1000, 0, 0, 1000}, {0, 0, 0, 1000}, {0, 0, -4, 1000}, {1000, 2000, 0, 1000}, {1000, 2000, math.MinInt, 1000},
		} {
			i := api.Info{Node: api.Node{Name: "n", Pods: 3000, Give: m.res(c.give)}, Used: m.res(c.used)}
			tells(t, m.name, api.Pod{Name: "p", Want: m.res(c.want)}, i, 1000, c.most)
			tells(t, m.name+", a lesser limit", api.Pod{Name: "p", Want: m.res(c.want)}, i, 2, min(2, c.most))
		}
	}
}

// 7.2: of several that end it the nearest does.
func TestMostByNearest(t *testing.T) {
	p := api.Pod{Name: "p", Want: api.Res{CPU: 10, Mem: 100, Disk: 1000}}
	for _, c := range []struct{ cpu, mem, disk, pods, limit, want int }{
		{59, 400, 7000, 8, 9, 4}, {39, 400, 7000, 8, 9, 3}, {59, 400, 2999, 8, 9, 2}, {59, 600, 7000, 1, 9, 1}, {59, 600, 7000, 8, 3, 3}, {90, 900, 9000, 9, 9, 9},
	} {
		i := api.Info{Node: api.Node{Name: "n", Pods: c.pods, Give: api.Res{CPU: c.cpu, Mem: c.mem, Disk: c.disk}}}
		tells(t, "several", p, i, c.limit, c.want)
	}
}

// 7.2: a pod that wants nothing: as many as the node takes, even where nothing is free.
func TestMostOfNothing(t *testing.T) {
	i := api.Info{Node: api.Node{Name: "n", Pods: 12}, Names: names(2), Used: api.Res{CPU: 5, Mem: most, Disk: math.MaxInt}}
	tells(t, "nothing free", api.Pod{Name: "p"}, i, 1000, 10)
	tells(t, "nothing free", api.Pod{Name: "p"}, i, 4, 4)
	tells(t, "below nothing", api.Pod{Name: "p", Want: api.Res{CPU: -1, Mem: -1, Disk: math.MinInt}}, i, 1000, 10)
	tells(t, "one of the three", api.Pod{Name: "p", Want: api.Res{CPU: 2}}, wide(), 1000, 1000)
	tells(t, "no node", api.Pod{}, api.Info{}, 1000, 0)
}

// 7.2: ports that are asked for let only one come; others' ports, and none at all, let all come.
func TestMostWithPorts(t *testing.T) {
	i := wide()
	i.Ports = []int{22, 8080}
	for _, c := range []struct {
		ports       []int
		limit, want int
	}{
		{nil, 9, 9}, {[]int{}, 9, 9}, {[]int{80}, 9, 1}, {[]int{80, 443}, 1000, 1}, {[]int{0}, 9, 1}, {[]int{-1, math.MaxInt}, 9, 1},
		{[]int{80}, 1, 1}, {[]int{80}, 0, 0}, {[]int{80}, -1, 0}, {[]int{22}, 9, 0}, {[]int{80, 8080}, 9, 0},
	} {
		tells(t, "ports", api.Pod{Name: "p", Ports: c.ports}, i, c.limit, c.want)
		tells(t, "ports and amounts", api.Pod{Name: "p", Ports: c.ports, Want: api.Res{CPU: 1}}, i, c.limit, c.want)
	}
	i.Node.Give.CPU = 4
	tells(t, "no room beside the port", api.Pod{Name: "p", Ports: []int{80}, Want: api.Res{CPU: 5}}, i, 9, 0)
}

// 7.2: what the pod bears, asks and claims counts as it does for one; claims do not end it.
func TestMostOfFullPod(t *testing.T) {
	i := wide()
	i.Node.Disks, i.Disks = 1, []string{"c"}
	i.Node.Labels, i.Node.Taints = []api.Label{{Key: "zone", Value: "x"}}, []api.Taint{{Key: "gpu", Effect: api.EffectKeep}, {Key: "old", Effect: api.EffectShy}}
	p := api.Pod{Name: "p", Bears: []api.Bear{{Key: "gpu"}}, Asks: []api.Req{{Key: "zone", Op: api.OpExists}}, Claims: []string{"c", "d"}, Node: "n"}
	tells(t, "full", p, i, 50, 50)
}

// 7.2, 7.5: random pods and infos, of which no call made many, held against one that comes behind the other.
func TestRandomMost(t *testing.T) {
	r := rand.New(rand.NewSource(72))
	seen := map[int]int{}
	limits := []int{math.MinInt, -1, 0, 1, 2, 3, 10, 20, 20, 20}
	for k := range 20000 {
		p, i := randomPod(r, "p", amounts()), randomInfo(r, amounts())
		if k%3 > 0 {
			p, i = easyPair(r)
		}
		limit := oneOf(r, limits)
		want := mostByWords(p, i, limit)
		if got := fit.Most(p, i, limit); got != want {
			t.Fatalf("Most(%+v, %+v, %d): %d, want %d", p, i, limit, got, want)
		}
		seen[want]++
	}
	for n := range 6 {
		if seen[n] < 50 {
			t.Errorf("drawn: %v", seen)
		}
	}
}
