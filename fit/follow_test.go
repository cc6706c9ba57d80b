package fit_test

import (
	"math"
	"math/rand"
	"reflect"
	"slices"
	"strconv"
	"testing"

	"stevedore/api"
	"stevedore/fit"
	"stevedore/info"
)

// 7.3: what is lacking is lacking still when more is wanted, or more is used, along all amounts.
func TestMoreWantedOrUsed(t *testing.T) {
	l := amounts()
	slices.Sort(l)
	for _, m := range members() {
		for _, give := range l {
			for _, want := range l {
				was := false
				for _, used := range l {
					i := api.Info{Node: api.Node{Pods: 1, Give: m.res(give)}, Used: m.res(used)}
					is := fit.Check(api.Pod{Want: m.res(want)}, i) == m.why
					if was && !is {
						t.Fatalf("%s: %d of %d, %d used: no more lacking", m.name, want, give, used)
					}
					was = is
				}
			}
			for _, used := range l {
				was := false
				for _, want := range l {
					i := api.Info{Node: api.Node{Pods: 1, Give: m.res(give)}, Used: m.res(used)}
					is := fit.Check(api.Pod{Want: m.res(want)}, i) == m.why
					if was && !is {
						t.Fatalf("%s: %d of %d, %d used: no more lacking", m.name, want, give, used)
					}
					was = is
				}
			}
		}
	}
}

// more is r with some members greater.
func more(r *rand.Rand, of api.Res) api.Res {
	for _, m := range members() {
		if a := m.of(&of); r.Intn(2) == 0 {
			*a = max(*a, oneOf(r, append(amounts(), small()...)))
		}
	}
	return of
}

// 7.3: random pods and infos: none of the reasons goes, and all others are as they were.
func TestRandomMore(t *testing.T) {
	r := rand.New(rand.NewSource(73))
	grown := 0
	for range 10000 {
		p, i := easyPair(r)
		was := fit.All(p, i)
		p.Want, i.Used = more(r, p.Want), more(r, i.Used)
		is := fit.All(p, i)
		for _, why := range was {
			if !slices.Contains(is, why) {
				t.Fatalf("%+v %+v: %v, was %v", p, i, is, was)
			}
		}
		for _, why := range is {
			if why < api.WhyCPU && !slices.Contains(was, why) {
				t.Fatalf("%+v %+v: %v, was %v", p, i, is, was)
			}
		}
		if len(is) > len(was) {
			grown++
		}
	}
	if grown < 1000 {
		t.Errorf("drawn: %d", grown)
	}
}

// 7.3: a pod more that stands there takes no reason away.
func TestMorePods(t *testing.T) {
	r := rand.New(rand.NewSource(74))
	for range 5000 {
		p, i := easyPair(r)
		was := fit.All(p, i)
		j, e := info.Add(i, randomPod(r, "one more", small()))
		if e != api.OK {
			t.Fatalf("Add: %d", e)
		}
		is := fit.All(p, j)
		for _, why := range was {
			if !slices.Contains(is, why) {
				t.Fatalf("%+v %+v: %v, was %v", p, j, is, was)
			}
		}
		if a, b := fit.Most(p, i, 100), fit.Most(p, j, 100); b > a {
			t.Fatalf("%+v %+v: Most: %d, was %d", p, j, b, a)
		}
	}
}

// 7.4: the order in which the pods came does not count, whether they came by Of or one by one.
func TestOrderOfPods(t *testing.T) {
	r := rand.New(rand.NewSource(75))
	seen := map[int]int{}
	for range 5000 {
		p, i := easyPair(r)
		pods := randomPods(r, 1+r.Intn(5), small())
		first := info.Of(i.Node, pods...)
		check, all, many := fit.Check(p, first), fit.All(p, first), fit.Most(p, first, 30)
		seen[check]++
		r.Shuffle(len(pods), func(a, b int) { pods[a], pods[b] = pods[b], pods[a] })
		added := info.Of(i.Node)
		for _, q := range pods {
			added, _ = info.Add(added, q)
		}
		// And an info whose lists stand in another order altogether.
		mixed := info.Of(i.Node, pods...)
		slices.Reverse(mixed.Names)
		slices.Reverse(mixed.Ports)
		for _, j := range []api.Info{info.Of(i.Node, pods...), added, mixed} {
			if a, b, c := fit.Check(p, j), fit.All(p, j), fit.Most(p, j, 30); a != check || !slices.Equal(b, all) || c != many {
				t.Fatalf("%+v %+v: %d %v %d, want %d %v %d", p, j, a, b, c, check, all, many)
			}
		}
	}
	if seen[0] < 500 || seen[api.WhyPorts] < 50 || seen[api.WhyPods] < 50 || seen[api.WhyCPU] < 50 {
		t.Errorf("drawn: %v", seen)
	}
}

// comes lets n pods like p come by the info layer's own Add, as long as Check has nothing against it, and tells how many came.
func comes(t *testing.T, p api.Pod, i api.Info, n int) (api.Info, int) {
	t.Helper()
	for k := range n {
		if fit.Check(p, i) != 0 {
			return i, k
		}
		p.Name = "like " + strconv.Itoa(k)
		var e api.Errno
		if i, e = info.Add(i, p); e != api.OK {
			t.Fatalf("Add: %d", e)
		}
	}
	return i, n
}

// 7.5: if Most tells n, n of them fit, one behind the other, and one more does not, unless n is the limit.
func TestMostFit(t *testing.T) {
	r := rand.New(rand.NewSource(76))
	ended, atLimit := map[int]int{}, 0
	for range 10000 {
		p, i := easyPair(r)
		if r.Intn(4) == 0 {
			p.Want, i.Node.Give = randomRes(r, amounts()), randomRes(r, []int{50, most / 2, most, math.MaxInt})
		}
		limit := r.Intn(40)
		n := fit.Most(p, i, limit)
		if n < 0 || n > limit {
			t.Fatalf("Most(%+v, %+v, %d): %d", p, i, limit, n)
		}
		last, came := comes(t, p, i, n)
		if came != n {
			t.Fatalf("Most(%+v, %+v, %d): %d, but %d come", p, i, limit, n, came)
		}
		why := fit.Check(p, last)
		switch {
		case n == limit:
			atLimit++
		case why == 0:
			t.Fatalf("Most(%+v, %+v, %d): %d, but one more comes", p, i, limit, n)
		case n > 0:
			ended[why]++
		}
	}
	for _, why := range order()[3:] {
		if ended[why] < 50 {
			t.Errorf("drawn: %v", ended)
		}
	}
	if atLimit < 50 {
		t.Errorf("drawn: %d", atLimit)
	}
}

// 7.5: at the greatest limit, too.
func TestMostFitGreat(t *testing.T) {
	p := api.Pod{Name: "p", Want: api.Res{CPU: most / 999, Mem: 1}}
	i := info.Of(api.Node{Name: "n", Pods: 1000, Give: api.Res{CPU: most, Mem: 5000}})
	tells(t, "great amounts", p, i, 5000, 999)
	last, came := comes(t, p, i, 1000)
	if came != 999 {
		t.Errorf("%d come", came)
	}
	told(t, "the last", p, last, api.WhyCPU)
	p.Want.CPU = most / 1000
	tells(t, "as much as a thousand may want", p, i, 5000, 1000)
	if _, came := comes(t, p, i, 1001); came != 1000 {
		t.Errorf("%d come", came)
	}
}

// 7.2: Most tells for a lesser limit the lesser of both.
func TestMostByLimit(t *testing.T) {
	r := rand.New(rand.NewSource(77))
	for range 2000 {
		p, i := easyPair(r)
		whole := fit.Most(p, i, 1000)
		for _, limit := range []int{-5, 0, 1, 2, 7, 30, 999, 1000, 1001} {
			tells(t, "a limit", p, i, limit, min(max(limit, 0), whole))
		}
	}
}

// 7.1, 7.2: Check, All and Most are at one.
func TestCallsAreAtOne(t *testing.T) {
	r := rand.New(rand.NewSource(78))
	for range 10000 {
		p, i := randomPod(r, "p", amounts()), randomInfo(r, amounts())
		check, all, one := fit.Check(p, i), fit.All(p, i), fit.Most(p, i, 1)
		if check != append(slices.Clone(all), 0)[0] || (one == 1) != (check == 0) || one < 0 || one > 1 {
			t.Fatalf("%+v %+v: %d %v %d", p, i, check, all, one)
		}
		if !slices.IsSorted(all) || len(slices.Compact(slices.Clone(all))) != len(all) {
			t.Fatalf("%+v %+v: %v", p, i, all)
		}
	}
}

// Rule 4: nothing that is handed in is changed, not even what stands behind a list's end.
func TestHandedInStays(t *testing.T) {
	r := rand.New(rand.NewSource(79))
	for range 2000 {
		p, i := randomPod(r, "p", amounts()), randomInfo(r, amounts())
		if r.Intn(2) == 0 {
			p, i = easyPair(r)
		}
		p.Ports, p.Asks, p.Bears = roomy(p.Ports, -8), roomy(p.Asks, api.Req{Key: "behind"}), roomy(p.Bears, api.Bear{Key: "behind"})
		i.Names, i.Ports, i.Disks = roomy(i.Names, "behind"), roomy(i.Ports, -9), roomy(i.Disks, "behind")
		i.Node.Labels, i.Node.Taints = roomy(i.Node.Labels, api.Label{Key: "behind"}), roomy(i.Node.Taints, api.Taint{Key: "behind"})
		now := struct {
			P api.Pod
			I api.Info
		}{p, i}
		was := opened(now)
		fit.Check(p, i)
		fit.All(p, i)
		fit.Most(p, i, 1000)
		if got := opened(now); !reflect.DeepEqual(got, was) {
			t.Fatalf("changed: %+v, was %+v", got, was)
		}
	}
}

// Rule 4: what All hands out is the caller's own.
func TestHandedOutIsOwn(t *testing.T) {
	p, i := against(1<<len(order()) - 1)
	first, second := fit.All(p, i), fit.All(p, i)
	for k := range first[:cap(first)] {
		first[:cap(first)][k] = -77
	}
	if want := order(); !slices.Equal(second, want) || !slices.Equal(fit.All(p, i), want) {
		t.Errorf("written over: %v, %v", second, fit.All(p, i))
	}
	if got := fit.Check(p, i); got != api.WhyOff {
		t.Errorf("written over: %d", got)
	}
}

// P1: no call panics, and each ends, of many members, too.
func TestManyMembers(t *testing.T) {
	p := api.Pod{Name: "p", Ports: make([]int, 500), Asks: make([]api.Req, 500), Bears: make([]api.Bear, 500)}
	i := wide()
	i.Names, i.Ports, i.Node.Labels, i.Node.Taints = names(2000), []int{1, 2}, make([]api.Label, 500), make([]api.Taint, 500)
	told(t, "asked by an Op that there is not", p, i, api.WhyAsks, api.WhyPods)
	for k := range p.Asks {
		p.Asks[k] = api.Req{Key: "no" + strconv.Itoa(k), Op: api.OpLacks}
	}
	i.Node.Pods = math.MaxInt
	told(t, "many", p, i)
	tells(t, "many", p, i, math.MaxInt, 1)
	p.Ports = nil
	tells(t, "many, no ports", p, i, math.MaxInt, 1000)
}
