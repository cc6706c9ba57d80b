package store_test

import (
	"fmt"
	"math/rand"
	"slices"
	"strconv"
	"testing"

	"stevedore/api"
	"stevedore/object"
	"stevedore/store"
	"stevedore/volume"
)

// 12.1 to 12.5: the chapter's example.
func TestExample(t *testing.T) {
	x := opened(t, api.State{})
	a, e := x.Put(nodeOf(api.Node{Name: "n", Pods: 2}))
	b, f := x.Put(podOf(api.Pod{Name: "p"}))
	same(t, "puts", []int{a, int(e), b, int(f)}, []int{1, 0, 2, 0})
	v, e := x.Bind(api.Bind{Pod: "p", Node: "n", PodSeen: 2, NodeSeen: 1})
	same(t, "bind", []int{v, int(e), x.Sight("n")}, []int{3, 0, 2})
	v, e = x.Bind(api.Bind{Pod: "p", Node: "n", PodSeen: 3, NodeSeen: 2})
	same(t, "bind again", []int{v, int(e)}, []int{0, int(api.ErrBound)})
	x.Put(podOf(api.Pod{Name: "q"}))
	v, e = x.Evict(api.Evict{For: "q", Node: "n", NodeSeen: 2, Victims: []string{"p"}})
	same(t, "evict one of the same priority", []int{v, int(e)}, []int{0, int(api.ErrVictim)})
}

// DOC.md, example 4: what was seen before is a conflict.
func TestExampleOfTheWhole(t *testing.T) {
	x := opened(t, api.State{})
	x.Put(nodeOf(api.Node{Name: "n", Pods: 2}))
	x.Put(podOf(api.Pod{Name: "p"}))
	refused(t, "a bind with what was seen before", x, bind(x, api.Bind{Pod: "p", Node: "n", PodSeen: 1, NodeSeen: 1}), api.ErrConflict)
	refused(t, "a bind with what was seen before of the node", x, bind(x, api.Bind{Pod: "p", Node: "n", PodSeen: 2, NodeSeen: 0}), api.ErrConflict)
	taken(t, "a bind with what was seen", x, bind(x, api.Bind{Pod: "p", Node: "n", PodSeen: 2, NodeSeen: 1}), "~ pod p @n")
	same(t, "version", x.Version(), 3)
}

// 12.1: a new store has that state, and nothing has happened to it.
func TestNew(t *testing.T) {
	for what, s := range map[string]api.State{"nothing": {}, "some": sample(), "empty lists": {Pods: []api.Pod{}, Claims: []api.Claim{}}} {
		x := opened(t, s)
		same(t, what+": State", x.State(), s)
		same(t, what+": Version", x.Version(), 0)
		same(t, what+": Log", x.Log(-5), []api.Change{})
		for _, kind := range allKinds() {
			var want []api.Item
			for _, o := range object.All(s, kind) {
				want = append(want, api.Item{Key: object.Name(o)})
				got, v, e := x.Get(kind, object.Name(o))
				same(t, fmt.Sprint(what, ": Get ", kind), []any{got, v, int(e)}, []any{o, 0, 0})
			}
			same(t, fmt.Sprint(what, ": Versions ", kind), x.Versions(kind), want)
			same(t, fmt.Sprint(what, ": Sights ", kind), x.Sights(kind), []api.Item{})
		}
		for _, name := range names() {
			same(t, what+": Sight "+name, x.Sight(name), 0)
		}
	}
}

// notMade asks New for an error, and for no store.
func notMade(t *testing.T, what string, s api.State, want api.Errno) {
	t.Helper()
	x, e := store.New(s)
	if x != nil {
		t.Errorf("%s: there is a store", what)
	}
	same(t, what, int(e), int(want))
}

// many is n objects of a kind.
func many(kind, n int) []api.Object {
	var l []api.Object
	for k := range n {
		l = append(l, bare(kind, "w"+strconv.Itoa(10000+k)))
	}
	return l
}

// stateOf is a state of those objects, in the order in which they are handed in.
func stateOf(l ...api.Object) api.State {
	var s api.State
	for _, o := range l {
		switch o.Kind {
		case api.KPod:
			s.Pods = append(s.Pods, o.Pod)
		case api.KNode:
			s.Nodes = append(s.Nodes, o.Node)
		case api.KVolume:
			s.Volumes = append(s.Volumes, o.Volume)
		case api.KClaim:
			s.Claims = append(s.Claims, o.Claim)
		case api.KClass:
			s.Classes = append(s.Classes, o.Class)
		case api.KBudget:
			s.Budgets = append(s.Budgets, o.Budget)
		}
	}
	return s
}

// 12.1: a state that is not right: what chapter 4 says of it.
func TestNewWrong(t *testing.T) {
	var most []api.Object
	for _, kind := range allKinds() {
		most = append(most, many(kind, 256)...)
		notMade(t, fmt.Sprint("too many of kind ", kind), stateOf(many(kind, 257)...), api.ErrLong)
		notMade(t, fmt.Sprint("no name, kind ", kind), stateOf(bare(kind, "")), api.ErrState)
		notMade(t, fmt.Sprint("no word, kind ", kind), stateOf(bare(kind, "A!")), api.ErrState)
		notMade(t, fmt.Sprint("a name twice, kind ", kind), stateOf(bare(kind, "a"), bare(kind, "a")), api.ErrState)
		notMade(t, fmt.Sprint("names that fall, kind ", kind), stateOf(bare(kind, "b"), bare(kind, "a")), api.ErrState)
		notMade(t, fmt.Sprint("too many, and one without a name, kind ", kind), stateOf(append(many(kind, 257), bare(kind, ""))...), api.ErrLong)
		s := stateOf(many(kind, 257)...)
		s.Pods = append([]api.Pod{{Name: "a", Node: "not-there", Hope: "x"}}, s.Pods...)
		notMade(t, fmt.Sprint("too many, and a bound one that hopes, kind ", kind), s, api.ErrLong)
	}
	same(t, "as many as there may be", opened(t, stateOf(most...)).State(), stateOf(most...))
}

// 12.1: right states whose objects do not fit together.
func TestNewUnfit(t *testing.T) {
	nodes := []api.Node{{Name: "m"}, {Name: "n"}}
	pods := func(l ...api.Pod) api.State { return api.State{Nodes: nodes, Pods: l} }
	claim := func(name, has string) api.Claim { return api.Claim{Name: name, Class: "k", Volume: has} }
	vol := func(name, of string) api.Volume { return api.Volume{Name: name, Class: "k", Claim: of} }
	kept := func(c []api.Claim, v ...api.Volume) api.State { return api.State{Claims: c, Volumes: v} }
	for _, c := range []struct {
		what string
		s    api.State
		want api.Errno
	}{
		{"bound", pods(api.Pod{Name: "p", Node: "n"}), api.OK},
		{"bound to a node that is not there", pods(api.Pod{Name: "p", Node: "o"}), api.ErrState},
		{"bound to what is no node", api.State{Pods: []api.Pod{{Name: "p", Node: "p"}}}, api.ErrState},
		{"the last one bound to a node that is not there", pods(api.Pod{Name: "p", Node: "n"}, api.Pod{Name: "q"}, api.Pod{Name: "r", Node: "o"}), api.ErrState},
		{"hopes", pods(api.Pod{Name: "p", Hope: "n"}), api.OK},
		{"hopes for a node that is not there", pods(api.Pod{Name: "p", Hope: "o"}), api.OK},
		{"bound, and hopes", pods(api.Pod{Name: "p", Node: "n", Hope: "m"}), api.ErrState},
		{"bound, and hopes for the same", pods(api.Pod{Name: "p", Node: "n", Hope: "n"}), api.ErrState},
		{"one is bound, another hopes", pods(api.Pod{Name: "p", Node: "n"}, api.Pod{Name: "q", Hope: "n"}), api.OK},
		{"bound where it may not stand", pods(api.Pod{Name: "p", Node: "n", Want: api.Res{CPU: 9}}), api.OK},
		{"a claim that is not there", pods(api.Pod{Name: "p", Node: "n", Claims: []string{"c"}}), api.OK},
		{"each other's", kept([]api.Claim{claim("c", "v")}, vol("v", "c")), api.OK},
		{"nobody's", kept([]api.Claim{claim("c", "")}, vol("v", "")), api.OK},
		{"a volume that is not there", kept([]api.Claim{claim("c", "v")}), api.ErrState},
		{"a volume that is free", kept([]api.Claim{claim("c", "v")}, vol("v", "")), api.ErrState},
		{"a volume that is another's", kept([]api.Claim{claim("c", "v"), claim("d", "v")}, vol("v", "d")), api.ErrState},
		{"a volume of a claim that is not there", kept(nil, vol("v", "c")), api.ErrState},
		{"a volume of a claim that has none", kept([]api.Claim{claim("c", "")}, vol("v", "c")), api.ErrState},
		{"a volume of a claim that has another", kept([]api.Claim{claim("c", "v")}, vol("v", "c"), vol("w", "c")), api.ErrState},
		{"crosswise", kept([]api.Claim{claim("c", "v"), claim("d", "w")}, vol("v", "d"), vol("w", "c")), api.ErrState},
		{"two pairs", kept([]api.Claim{claim("c", "w"), claim("d", "v")}, vol("v", "d"), vol("w", "c")), api.OK},
		{"of another class and too small", kept([]api.Claim{{Name: "c", Size: 9, Class: "k", Volume: "v"}}, api.Volume{Name: "v", Class: "l", Claim: "c"}), api.OK},
	} {
		if c.want != api.OK {
			notMade(t, c.what, c.s, c.want)
			continue
		}
		same(t, c.what, opened(t, c.s).State(), c.s)
	}
}

// 12.1: claims and volumes fit together just where chapter 10 counts nothing.
func TestNewPairs(t *testing.T) {
	r := rand.New(rand.NewSource(1201))
	fit := 0
	for range 4000 {
		var s api.State
		for _, name := range []string{"c", "d", "e"} {
			if r.Intn(4) > 0 {
				s.Claims = append(s.Claims, api.Claim{Name: name, Class: "k", Volume: []string{"", "", "v", "w"}[r.Intn(4)]})
			}
		}
		for _, name := range []string{"v", "w", "x"} {
			if r.Intn(4) > 0 {
				of := ""
				if at := slices.IndexFunc(s.Claims, func(c api.Claim) bool { return c.Volume == name }); at >= 0 && r.Intn(8) > 0 {
					of = s.Claims[at].Name
				}
				s.Volumes = append(s.Volumes, api.Volume{Name: name, Class: "k", Claim: of})
			}
		}
		_, e := store.New(s)
		same(t, fmt.Sprintf("New(%+v) fits", s), e == api.OK, volume.Check(s) == 0)
		if e == api.OK && volume.Free(s) != nil {
			fit++
		}
	}
	if fit < 500 || fit > 3500 {
		t.Errorf("%d of the states fit", fit)
	}
}

// Rule 2: a store that no call made.
func TestUnmade(t *testing.T) {
	for what, x := range map[string]*store.Store{"nil": nil, "plain": {}} {
		for range 2 { // nothing is done, so the second time is as the first
			for call, do := range map[string]func() (int, api.Errno){
				"Put":          put(x, bare(api.KPod, "p")),
				"Put wrong":    put(x, api.Object{Kind: 9}),
				"Delete":       del(x, api.KPod, "p"),
				"Delete wrong": del(x, 9, "p"),
				"Bind":         bind(x, api.Bind{Pod: "p", Node: "n"}),
				"Hope":         hope(x, "p", ""),
				"Evict":        evict(x, api.Evict{For: "p", Node: "n", Victims: []string{"a"}}),
				"Evict none":   evict(x, api.Evict{}),
			} {
				n, e := do()
				same(t, what+" "+call, []int{n, int(e)}, []int{0, int(api.ErrNil)})
			}
			for _, kind := range append(allKinds(), noKinds()...) {
				o, v, e := x.Get(kind, "p")
				same(t, what+" Get", []any{o, v, int(e)}, []any{api.Object{}, 0, int(api.ErrNil)})
				same(t, what+" lists", []any{x.Versions(kind), x.Sights(kind)}, []any{[]api.Item{}, []api.Item{}})
			}
			same(t, what+" State", x.State(), api.State{})
			same(t, what+" numbers", []int{x.Sight("n"), x.Sight(""), x.Version()}, []int{0, 0, 0})
			same(t, what+" Log", []int{len(x.Log(-1)), len(x.Log(0)), len(x.Log(1))}, []int{0, 0, 0})
			if x.Clone() != nil {
				t.Errorf("%s: there is a clone", what)
			}
		}
	}
}
