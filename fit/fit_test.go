package fit_test

import (
	"fmt"
	"math"
	"math/rand"
	"slices"
	"testing"

	"stevedore/api"
	"stevedore/fit"
	"stevedore/info"
)

// 7.1, 7.2, the chapter's example.
func TestExample(t *testing.T) {
	i := info.Of(api.Node{Name: "n", Pods: 2, Give: api.Res{CPU: 1000}})
	p := api.Pod{Name: "p", Want: api.Res{CPU: 600}}
	told(t, "the example", p, i)
	tells(t, "the example", p, i, 9, 1)
}

// 7.1, the whole's second example.
func TestWholeExample(t *testing.T) {
	i := info.Of(api.Node{Name: "n", Pods: 2, Give: api.Res{CPU: 1000}}, api.Pod{Name: "a", Want: api.Res{CPU: 500}})
	told(t, "600m where 500m are free", api.Pod{Name: "p", Want: api.Res{CPU: 600}}, i, api.WhyCPU)
}

// against is a pod and an info with just the reasons that are in the set: bit k is order's k-th.
func against(set int) (api.Pod, api.Info) {
	has := func(why int) bool { return set&(1<<slices.Index(order(), why)) != 0 }
	p := api.Pod{
		Name: "p", Want: api.Res{CPU: 10, Mem: 20, Disk: 30}, Ports: []int{80, 443},
		Asks: []api.Req{{Key: "zone", Op: api.OpIn, Values: []string{"x"}}}, Bears: []api.Bear{{Key: "gpu", Value: "yes"}},
	}
	i := api.Info{
		Node: api.Node{
			Name: "n", Off: has(api.WhyOff), Pods: 3, Give: api.Res{CPU: 100, Mem: 200, Disk: 300},
			Labels: []api.Label{{Key: "zone", Value: "x"}}, Taints: []api.Taint{{Key: "gpu", Value: "yes", Effect: api.EffectKeep}},
		},
		Names: []string{"a", "b"}, Used: api.Res{CPU: 90, Mem: 180, Disk: 270}, Ports: []int{22, 8080},
	}
	if has(api.WhyTaint) {
		i.Node.Taints[0].Value = "no"
	}
	if has(api.WhyAsks) {
		i.Node.Labels[0].Value = "y"
	}
	if has(api.WhyPorts) {
		i.Ports = append(i.Ports, 443)
	}
	if has(api.WhyPods) {
		i.Names = append(i.Names, "c")
	}
	for _, m := range members() {
		if has(m.why) {
			*m.of(&i.Used)++
		}
	}
	return p, i
}

// 7.1: no reason, each alone, each two, and all others together: in the chapter's order, and the first one.
func TestEachSetOfReasons(t *testing.T) {
	for set := range 1 << len(order()) {
		var want []int
		for k, why := range order() {
			if set&(1<<k) != 0 {
				want = append(want, why)
			}
		}
		p, i := against(set)
		told(t, fmt.Sprintf("the set %08b", set), p, i, want...)
		if got := fit.Most(p, i, 1000); (got == 0) != (set != 0) {
			t.Errorf("the set %08b: Most: %d", set, got)
		}
	}
}

// 7.1: the reasons are the numbers from 1 to 8, and none is told as 0.
func TestNumbersOfReasons(t *testing.T) {
	p, i := against(1<<len(order()) - 1)
	told(t, "all", p, i, 1, 2, 3, 4, 5, 6, 7, 8)
	p, i = against(0)
	if got := fit.Check(p, i); got != 0 {
		t.Errorf("none: %d", got)
	}
	if got := fit.All(p, i); len(got) != 0 {
		t.Errorf("none: %v", got)
	}
}

// 7.1: a node that is off is so for everybody.
func TestOff(t *testing.T) {
	i := wide()
	i.Node.Off = true
	told(t, "nothing wanted", api.Pod{}, i, api.WhyOff)
	told(t, "all borne", api.Pod{Name: "p", Priority: 9, Bears: []api.Bear{{Any: true}}, Hope: "n", Node: "n"}, i, api.WhyOff)
	i.Node.Off = false
	told(t, "on", api.Pod{}, i)
}

// 7.1: a taint keeps off who does not bear it; one that only is shied at keeps nobody off.
func TestTaints(t *testing.T) {
	keep := api.Taint{Key: "gpu", Value: "yes", Effect: api.EffectKeep}
	old := api.Taint{Key: "old", Effect: api.EffectKeep}
	shy := api.Taint{Key: "gpu", Value: "yes", Effect: api.EffectShy}
	for _, c := range []struct {
		what   string
		taints []api.Taint
		bears  []api.Bear
		kept   bool
	}{
		{"none", nil, nil, false},
		{"none, something borne", nil, []api.Bear{{Key: "gpu", Value: "yes"}}, false},
		{"one that keeps off", []api.Taint{keep}, nil, true},
		{"one that only is shied at", []api.Taint{shy}, nil, false},
		{"one that is shied at, something else borne", []api.Taint{shy}, []api.Bear{{Key: "old"}}, false},
		{"one of no effect that there is", []api.Taint{{Key: "gpu", Effect: 0}, {Key: "gpu", Effect: 3}, {Key: "gpu", Effect: -1}}, nil, false},
		{"borne by its value", []api.Taint{keep}, []api.Bear{{Key: "gpu", Value: "yes"}}, false},
		{"borne by Any", []api.Taint{keep}, []api.Bear{{Key: "gpu", Any: true}}, false},
		{"borne as all is", []api.Taint{keep, old}, []api.Bear{{Any: true}}, false},
		{"borne by its effect", []api.Taint{keep}, []api.Bear{{Key: "gpu", Value: "yes", Effect: api.EffectKeep}}, false},
		{"another value", []api.Taint{keep}, []api.Bear{{Key: "gpu", Value: "no"}}, true},
		{"another key", []api.Taint{keep}, []api.Bear{{Key: "old", Any: true}}, true},
		{"another effect", []api.Taint{keep}, []api.Bear{{Key: "gpu", Any: true, Effect: api.EffectShy}}, true},
		{"the first borne, the second not", []api.Taint{keep, old}, []api.Bear{{Key: "gpu", Any: true}}, true},
		{"the second borne, the first not", []api.Taint{keep, old}, []api.Bear{{Key: "old"}}, true},
		{"both borne, one each", []api.Taint{keep, old}, []api.Bear{{Key: "old"}, {Key: "gpu", Any: true}}, false},
		{"shied at ahead of one that keeps off", []api.Taint{shy, old}, nil, true},
		{"one that keeps off and is borne, one that is shied at", []api.Taint{keep, shy}, []api.Bear{{Key: "gpu", Any: true, Effect: api.EffectKeep}}, false},
	} {
		i := wide()
		i.Node.Taints = c.taints
		var want []int
		if c.kept {
			want = []int{api.WhyTaint}
		}
		told(t, c.what, api.Pod{Name: "p", Bears: c.bears}, i, want...)
	}
}

// 7.1: the node's labels meet what is asked, all of it, or they do not; the pod's own do not count.
func TestAsks(t *testing.T) {
	labels := []api.Label{{Key: "cores", Value: "8"}, {Key: "zone", Value: "x"}}
	in := api.Req{Key: "zone", Op: api.OpIn, Values: []string{"x", "y"}}
	for _, c := range []struct {
		what string
		asks []api.Req
		met  bool
	}{
		{"nothing", nil, true},
		{"nothing, empty", []api.Req{}, true},
		{"in", []api.Req{in}, true},
		{"in others", []api.Req{{Key: "zone", Op: api.OpIn, Values: []string{"y"}}}, false},
		{"not in", []api.Req{{Key: "zone", Op: api.OpNotIn, Values: []string{"x"}}}, false},
		{"not in others", []api.Req{{Key: "zone", Op: api.OpNotIn, Values: []string{"y"}}}, true},
		{"exists", []api.Req{{Key: "zone", Op: api.OpExists}}, true},
		{"what only the pod has", []api.Req{{Key: "app", Op: api.OpExists}}, false},
		{"lacks", []api.Req{{Key: "zone", Op: api.OpLacks}}, false},
		{"lacks what only the pod has", []api.Req{{Key: "app", Op: api.OpLacks}}, true},
		{"above", []api.Req{{Key: "cores", Op: api.OpAbove, Values: []string{"7"}}}, true},
		{"above the same", []api.Req{{Key: "cores", Op: api.OpAbove, Values: []string{"8"}}}, false},
		{"below", []api.Req{{Key: "cores", Op: api.OpBelow, Values: []string{"9"}}}, true},
		{"an Op that there is not", []api.Req{{Key: "zone", Op: 7}}, false},
		{"all of two", []api.Req{in, {Key: "cores", Op: api.OpExists}}, true},
		{"the first of two", []api.Req{in, {Key: "app", Op: api.OpExists}}, false},
		{"the second of two", []api.Req{{Key: "app", Op: api.OpExists}, in}, false},
	} {
		i := wide()
		i.Node.Labels = labels
		var want []int
		if !c.met {
			want = []int{api.WhyAsks}
		}
		p := api.Pod{Name: "p", Asks: c.asks, Labels: []api.Label{{Key: "app", Value: "x"}}}
		told(t, c.what, p, i, want...)
		// What is liked, wanted near or apart, or spread, is others' matter.
		p.Prefers, p.Near, p.Apart = []api.Prefer{{Reqs: []api.Req{{Key: "no", Op: api.OpExists}}, Weight: 1}}, []api.Term{{Key: "no"}}, []api.Term{{Key: "zone"}}
		p.Spreads, p.Claims = []api.Spread{{Key: "no", Skew: 1}}, []string{"none"}
		told(t, c.what+", with all else", p, i, want...)
	}
}

// 7.1: a port of the pod's is in use there, or none is.
func TestPorts(t *testing.T) {
	for _, c := range []struct {
		what  string
		asked []int
		inUse []int
		clash bool
	}{
		{"none asked for, none in use", nil, nil, false},
		{"none asked for", nil, []int{80}, false},
		{"none asked for, empty", []int{}, []int{0, 80}, false},
		{"none in use", []int{80}, nil, false},
		{"others in use", []int{80}, []int{79, 81, 8080}, false},
		{"the one in use", []int{80}, []int{80}, true},
		{"the first of several", []int{80, 443, 8080}, []int{80}, true},
		{"a middle one of several", []int{80, 443, 8080}, []int{22, 443, 9000}, true},
		{"the last of several", []int{80, 443, 8080}, []int{8080}, true},
		{"none of several", []int{80, 443, 8080}, []int{22, 444, 9000}, false},
		{"all of several", []int{80, 443}, []int{80, 443}, true},
		{"in no order", []int{443, 80}, []int{9000, 80, 22}, true},
		{"numbers that are no ports", []int{-1, 0, math.MaxInt}, []int{math.MinInt, 0}, true},
		{"others that are no ports", []int{-1, math.MaxInt}, []int{math.MinInt, 0}, false},
	} {
		i := wide()
		i.Ports = c.inUse
		var want []int
		if c.clash {
			want = []int{api.WhyPorts}
		}
		told(t, c.what, api.Pod{Name: "p", Ports: c.asked}, i, want...)
	}
}

// 7.1: one pod fewer than the node takes, as many, and more; a node that takes none.
func TestPods(t *testing.T) {
	for _, c := range []struct {
		there, takes int
		full         bool
	}{
		{0, 0, true}, {1, 0, true}, {0, -1, true}, {3, -1, true}, {0, math.MinInt, true},
		{0, 1, false}, {1, 1, true}, {2, 1, true},
		{0, 5, false}, {3, 5, false}, {4, 5, false}, {5, 5, true}, {6, 5, true},
		{999, 1000, false}, {1000, 1000, true}, {1001, 1000, true},
		{1000, 1001, false}, {7, math.MaxInt, false},
	} {
		i := wide()
		i.Names, i.Node.Pods = names(c.there), c.takes
		var want []int
		if c.full {
			want = []int{api.WhyPods}
		}
		told(t, fmt.Sprintf("%d of %d", c.there, c.takes), api.Pod{Name: "p"}, i, want...)
	}
}

// 7.1: the claims that a node takes are others' matter.
func TestClaimsDoNotCount(t *testing.T) {
	i := wide()
	i.Node.Disks, i.Disks = 1, []string{"c", "d"}
	told(t, "more claims than it takes", api.Pod{Name: "p", Claims: []string{"c", "e"}}, i)
}

// 7.1: a pod of its own name that stands there counts as any other one.
func TestOwnName(t *testing.T) {
	p := api.Pod{Name: "p", Want: api.Res{CPU: 600}, Ports: []int{80}, Node: "n"}
	n := api.Node{Name: "n", Pods: 1, Give: api.Res{CPU: 1000}}
	told(t, "alone", p, info.Of(n, p), api.WhyPorts, api.WhyPods, api.WhyCPU)
	n.Pods = 2
	told(t, "with room", p, info.Of(n, p), api.WhyPorts, api.WhyCPU)
	n.Give.CPU = 1200
	told(t, "with room for both", p, info.Of(n, p), api.WhyPorts)
	p.Ports = nil
	told(t, "without ports", p, info.Of(n, p))
	tells(t, "without ports", p, info.Of(n, p), 9, 1)
	n.Pods = 1
	tells(t, "no room for a second one", p, info.Of(n, p), 9, 0)
	told(t, "no room for a second one", p, info.Of(n, p), api.WhyPods)
}

// 7.1: what is wanted just what is free, and one more of it, for each amount alone.
func TestJustWhatIsFree(t *testing.T) {
	for _, m := range members() {
		for _, c := range []struct{ give, used, want int }{
			{1000, 0, 1000}, {1000, 400, 600}, {1000, 999, 1}, {1, 0, 1}, {most - 1, 0, most - 1}, {most, 1, most - 1}, {most, most - 1, 1},
			{1000, 1000, 0}, {1000, 1001, 0}, {1000, most, 0}, {0, 0, 0}, {-5, 0, 0}, {0, 7, 0}, {1000, -7, 1000}, {most + 9, 3, most - 3},
		} {
			i := api.Info{Node: api.Node{Name: "n", Pods: 1, Give: m.res(c.give)}, Used: m.res(c.used)}
			what := fmt.Sprintf("%s: %+v", m.name, c)
			told(t, what, api.Pod{Name: "p", Want: m.res(c.want)}, i)
			told(t, what+", one more", api.Pod{Name: "p", Want: m.res(c.want + 1)}, i, m.why)
		}
	}
}

// 7.1: each amount is held against its own.
func TestEachAmountAlone(t *testing.T) {
	i := api.Info{Node: api.Node{Name: "n", Pods: 9, Give: api.Res{CPU: 11, Mem: 22, Disk: 33}}, Used: api.Res{CPU: 1, Mem: 2, Disk: 3}}
	for _, c := range []struct {
		want api.Res
		why  []int
	}{
		{api.Res{CPU: 10, Mem: 20, Disk: 30}, nil},
		{api.Res{CPU: 11, Mem: 20, Disk: 30}, []int{api.WhyCPU}},
		{api.Res{CPU: 10, Mem: 21, Disk: 30}, []int{api.WhyMem}},
		{api.Res{CPU: 10, Mem: 20, Disk: 31}, []int{api.WhyDisk}},
		{api.Res{CPU: 20, Mem: 10, Disk: 10}, []int{api.WhyCPU}},
		{api.Res{CPU: 10, Mem: 30, Disk: 20}, []int{api.WhyMem}},
		{api.Res{CPU: 11, Mem: 21, Disk: 31}, []int{api.WhyCPU, api.WhyMem, api.WhyDisk}},
		{api.Res{CPU: 0, Mem: 0, Disk: 0}, nil},
	} {
		told(t, fmt.Sprintf("%+v", c.want), api.Pod{Name: "p", Want: c.want}, i, c.why...)
	}
}

// 7.1: nothing is wanted where nothing is free: no reason.
func TestNothingWanted(t *testing.T) {
	p := api.Pod{Name: "p"}
	told(t, "nothing given", p, api.Info{Node: api.Node{Pods: 1}})
	full := api.Res{CPU: 7, Mem: 7, Disk: 7}
	told(t, "all used", p, api.Info{Node: api.Node{Pods: 1, Give: full}, Used: full})
	told(t, "more used than given", p, api.Info{Node: api.Node{Pods: 1, Give: full}, Used: api.Res{CPU: 8, Mem: most, Disk: math.MaxInt}})
}

// 7.1: numbers that are no amounts count as the nearest ones.
func TestNoAmounts(t *testing.T) {
	for _, m := range members() {
		for _, c := range []struct {
			what             string
			give, used, want int
			lacks            bool
		}{
			{"want below nothing", 0, 0, -1, false},
			{"want far below nothing", 0, 0, math.MinInt, false},
			{"want above the greatest", most, 0, most + 1, false},
			{"want far above the greatest", most, 0, math.MaxInt, false},
			{"want above the greatest, one used", most, 1, math.MaxInt, true},
			{"give below nothing", -1, 0, 1, true},
			{"give far below nothing", math.MinInt, math.MaxInt, 1, true},
			{"give far below nothing, nothing wanted", math.MinInt, math.MaxInt, 0, false},
			{"give above the greatest", math.MaxInt, 0, most, false},
			{"give above the greatest, one used", most + 5, 1, most, true},
			{"used below nothing", 5, -1, 5, false},
			{"used below nothing, no more free by it", 5, -1, 6, true},
			{"used far below nothing", 5, math.MinInt, 6, true},
			{"used above the greatest", most, most + 1, 1, true},
			{"used and given above the greatest", math.MaxInt, most + 5, 1, true},
			{"used and given above the greatest, nothing wanted", math.MaxInt, most + 5, 0, false},
			{"all above the greatest", math.MaxInt, math.MaxInt, math.MaxInt, true},
			{"all below nothing", math.MinInt, math.MinInt, math.MinInt, false},
		} {
			i := api.Info{Node: api.Node{Name: "n", Pods: 1, Give: m.res(c.give)}, Used: m.res(c.used)}
			var want []int
			if c.lacks {
				want = []int{m.why}
			}
			told(t, m.name+": "+c.what, api.Pod{Name: "p", Want: m.res(c.want)}, i, want...)
		}
	}
}

// 7.1: pods and infos that no call made: names in no order, or twice, count as they stand; nothing at all takes nobody.
func TestInfoThatNoCallMade(t *testing.T) {
	told(t, "nothing", api.Pod{}, api.Info{}, api.WhyPods)
	i := wide()
	i.Names, i.Ports, i.Disks, i.Node.Pods = []string{"z", "a", "z"}, []int{443, 22, 443, 80}, []string{"d", "c", "d"}, 4
	told(t, "one more", api.Pod{Name: "z"}, i)
	told(t, "a port behind greater ones", api.Pod{Ports: []int{80, 1}}, i, api.WhyPorts)
	i.Node.Pods = 3
	told(t, "as many", api.Pod{Name: "z"}, i, api.WhyPods)
	i = api.Info{Used: api.Res{CPU: -4, Mem: 9}, Ports: []int{1}, Node: api.Node{Pods: 1, Give: api.Res{CPU: 3, Mem: 10}}}
	told(t, "used by nobody", api.Pod{Want: api.Res{CPU: 3, Mem: 1}}, i)
	told(t, "too much used by nobody", api.Pod{Want: api.Res{CPU: 3, Mem: 2}, Ports: []int{1}}, i, api.WhyPorts, api.WhyMem)
}

// 7.1: random pods and infos, of which no call made many, held against the words.
func TestRandomReasons(t *testing.T) {
	r := rand.New(rand.NewSource(71))
	seen := map[int]int{}
	for k := range 20000 {
		p, i := randomPod(r, "p", amounts()), randomInfo(r, amounts())
		if k%2 == 0 {
			p, i = easyPair(r)
		}
		want := allByWords(p, i)
		if got := fit.All(p, i); !slices.Equal(got, want) {
			t.Fatalf("All(%+v, %+v): %v, want %v", p, i, got, want)
		}
		first := append(slices.Clone(want), 0)[0]
		if got := fit.Check(p, i); got != first {
			t.Fatalf("Check(%+v, %+v): %d, want %d", p, i, got, first)
		}
		seen[first]++
	}
	for _, why := range append(order(), 0) {
		if seen[why] < 100 {
			t.Errorf("drawn: %v", seen)
		}
	}
}
