package store_test

import (
	"fmt"
	"math/rand"
	"testing"

	"stevedore/api"
	"stevedore/feasible"
	"stevedore/object"
	"stevedore/store"
	"stevedore/volume"
)

func oneOf[T any](r *rand.Rand, l []T) T { return l[r.Intn(len(l))] }

// poolOf is the names that objects of a kind have in random runs.
func poolOf(kind int) []string {
	return [][]string{
		nil, {"a", "b", "c", "d", "e", "f", "g", "h"}, {"l", "m", "n", "o"}, {"u", "v", "w", "x"}, {"c1", "c2", "c3"}, {"k", "now"}, {"b1", "b2"},
	}[kind]
}

// anyName is mostly one of the pool's.
func anyName(r *rand.Rand, kind int) string {
	if r.Intn(15) == 0 {
		return oneOf(r, []string{"", "not-there", "n", "a"})
	}
	return oneOf(r, poolOf(kind))
}

func someOf[T any](r *rand.Rand, l []T, per int) []T {
	var out []T
	for _, x := range l {
		if r.Intn(per) == 0 {
			out = append(out, x)
		}
	}
	return out
}

func randomPod(r *rand.Rand, name string) api.Pod {
	p := api.Pod{
		Name: name, Priority: r.Intn(4), Labels: []api.Label{{Key: "app", Value: oneOf(r, []string{"x", "y"})}},
		Want: api.Res{CPU: r.Intn(4)}, Ports: someOf(r, []int{80, 443}, 5), Claims: someOf(r, poolOf(api.KClaim), 3),
		Node: oneOf(r, []string{"", "", "l", "m", "not-there"}), Hope: oneOf(r, []string{"", "", "n"}),
	}
	if r.Intn(6) == 0 {
		p.Apart = []api.Term{{Key: "zone", Reqs: asks("app", "x")}}
	}
	if r.Intn(6) == 0 {
		p.Spreads = []api.Spread{{Key: "zone", Skew: 1, Reqs: asks("app", "y")}}
	}
	return p
}

// randomObject is mostly a right one, with something in what users may not write.
func randomObject(r *rand.Rand) api.Object {
	kind := oneOf(r, []int{api.KPod, api.KPod, api.KPod, api.KPod, api.KNode, api.KNode, api.KVolume, api.KVolume, api.KClaim, api.KClaim, api.KClass, api.KBudget})
	name := oneOf(r, poolOf(kind))
	zone := oneOf(r, []string{"1", "2"})
	o := bare(kind, name)
	switch kind {
	case api.KPod:
		o.Pod = randomPod(r, name)
	case api.KNode:
		o.Node = api.Node{Name: name, Labels: []api.Label{{Key: "zone", Value: zone}}, Off: r.Intn(9) == 0, Give: api.Res{CPU: 2 + r.Intn(12)}, Pods: 1 + r.Intn(5), Disks: 1 + r.Intn(3)}
	case api.KVolume:
		o.Volume = api.Volume{Name: name, Size: r.Intn(4), Class: "k", Claim: oneOf(r, []string{"", "c1", "none"})}
		if r.Intn(3) == 0 {
			o.Volume.Reqs = asks("zone", zone)
		}
	case api.KClaim:
		o.Claim = api.Claim{Name: name, Size: r.Intn(3), Class: oneOf(r, []string{"k", "k", "k", "now"}), Volume: oneOf(r, []string{"", "u", "none"})}
	case api.KClass:
		o.Class.Wait = name == "k" && r.Intn(12) > 0
	}
	switch r.Intn(25) {
	case 0:
		o.Kind = oneOf(r, []int{0, 7, -3})
	case 1:
		o.Pod.Priority, o.Node.Pods = 1<<40, -1
	}
	return o
}

// pair is a store and the model to which the same is done.
type pair struct {
	x *store.Store
	m *model
	r *rand.Rand
	// how often each call had each end
	ends map[string]int
}

// near is a number that is mostly n.
func (c *pair) near(n int) int {
	if c.r.Intn(6) == 0 {
		return n + oneOf(c.r, []int{-1, 1})
	}
	return n
}

// randomBind is mostly as what is there, with the plan's picks.
func (c *pair) randomBind() api.Bind {
	r := c.r
	b := api.Bind{Pod: anyName(r, api.KPod), Node: anyName(r, api.KNode)}
	if some := waiting(c.m.state()); len(some) > 0 && r.Intn(3) > 0 {
		b.Pod = oneOf(r, some)
	}
	if some := feasible.Any(c.m.state(), c.m.now[id{api.KPod, b.Pod}].Pod); len(some) > 0 && r.Intn(3) > 0 {
		b.Node = oneOf(r, some)
	}
	b.PodSeen, b.NodeSeen = c.near(c.m.version(api.KPod, b.Pod)), c.near(c.m.sight(b.Node))
	p := c.m.now[id{api.KPod, b.Pod}].Pod
	_, b.Picks = feasible.Check(c.m.state(), p, b.Node)
	switch {
	case r.Intn(10) > 0:
	case len(b.Picks) > 1 && r.Intn(2) == 0:
		b.Picks[0], b.Picks[1] = b.Picks[1], b.Picks[0]
	case len(b.Picks) > 0 && r.Intn(2) == 0:
		b.Picks = b.Picks[1:]
	default:
		b.Picks = append(b.Picks, api.Pick{Claim: anyName(r, api.KClaim), Volume: anyName(r, api.KVolume)})
	}
	return b
}

// waiting is the names of the pods that are not bound.
func waiting(s api.State) []string {
	var l []string
	for _, p := range s.Pods {
		if p.Node == "" {
			l = append(l, p.Name)
		}
	}
	return l
}

// randomEvict is mostly of pods that are there, some of them such as may be put out.
func (c *pair) randomEvict() api.Evict {
	r := c.r
	e := api.Evict{For: anyName(r, api.KPod), Node: anyName(r, api.KNode)}
	e.NodeSeen = c.near(c.m.sight(e.Node))
	own := c.m.now[id{api.KPod, e.For}].Pod.Priority
	for _, name := range c.m.namesOf(api.KPod) {
		p := c.m.now[id{api.KPod, name}].Pod
		if p.Node == e.Node && p.Priority < own && r.Intn(3) > 0 || r.Intn(25) == 0 {
			e.Victims = append(e.Victims, name)
		}
	}
	r.Shuffle(len(e.Victims), func(i, j int) { e.Victims[i], e.Victims[j] = e.Victims[j], e.Victims[i] })
	if len(e.Victims) > 0 && r.Intn(12) == 0 {
		e.Victims = append(e.Victims, e.Victims[0])
	}
	return e
}

// step does one thing to both, and tells what, and both answers.
func (c *pair) step() (what string, n int, e api.Errno, m int, f api.Errno) {
	switch k := c.r.Intn(20); {
	case k < 8:
		o := randomObject(c.r)
		n, e = c.x.Put(copied(o))
		m, f = c.m.put(o)
		what = "Put"
	case k < 10:
		kind := c.r.Intn(7)
		name := anyName(c.r, max(kind, 1))
		n, e = c.x.Delete(kind, name)
		m, f = c.m.delete(kind, name)
		what = "Delete"
	case k < 16:
		b := c.randomBind()
		n, e = c.x.Bind(b)
		m, f = c.m.bind(b)
		what = "Bind"
	case k < 18:
		pod, node := anyName(c.r, api.KPod), oneOf(c.r, []string{"", "m", "n", "o", "not-there"})
		n, e = c.x.Hope(pod, node)
		m, f = c.m.hope(pod, node)
		what = "Hope"
	default:
		v := c.randomEvict()
		n, e = c.x.Evict(v)
		m, f = c.m.evict(v)
		what = "Evict"
	}
	c.ends[fmt.Sprint(what, " ", int(e))]++
	return what, n, e, m, f
}

// held holds all that the store tells against the model.
func (c *pair) held(t *testing.T, what string) {
	t.Helper()
	same(t, what+": State", c.x.State(), c.m.state())
	same(t, what+": Version", c.x.Version(), len(c.m.log))
	from := c.r.Intn(len(c.m.log)+3) - 1
	same(t, what+": Log", c.x.Log(from), c.m.log[min(max(from, 0), len(c.m.log)):])
	ofNodes, ofPods := c.m.sights()
	same(t, what+": Sights of nodes", c.x.Sights(api.KNode), items(ofNodes))
	same(t, what+": Sights of pods", c.x.Sights(api.KPod), items(ofPods))
	for _, name := range poolOf(api.KNode) {
		same(t, what+": Sight", c.x.Sight(name), c.m.sight(name))
	}
	for _, kind := range allKinds() {
		var want []api.Item
		for _, name := range c.m.namesOf(kind) {
			want = append(want, api.Item{Key: name, Seq: c.m.version(kind, name)})
		}
		same(t, what+": Versions", c.x.Versions(kind), want)
		name := anyName(c.r, kind)
		o, v, _ := c.x.Get(kind, name)
		same(t, what+": Get", []any{o, v}, []any{c.m.now[id{kind, name}], c.m.version(kind, name)})
	}
}

// firstState is one with some objects, some pods of which are bound, by allowed binds or not.
func firstState(r *rand.Rand) api.State {
	s := api.State{Classes: []api.Class{{Name: "k", Wait: true}}}
	for range r.Intn(40) {
		o := randomObject(r)
		o.Pod.Node, o.Pod.Hope, o.Volume.Claim, o.Claim.Volume = "", "", "", ""
		if u, _, e := object.Put(s, o); e == api.OK {
			s = u
		}
	}
	for k := range s.Pods {
		if len(s.Nodes) > 0 && r.Intn(3) == 0 {
			s.Pods[k].Node = oneOf(r, s.Nodes).Name
		} else if r.Intn(2) == 0 {
			s.Pods[k].Hope = oneOf(r, poolOf(api.KNode))
		}
	}
	for k := range min(len(s.Claims), len(s.Volumes)) {
		if r.Intn(3) == 0 {
			s.Claims[k].Volume, s.Volumes[k].Claim = s.Volumes[k].Name, s.Claims[k].Name
		}
	}
	return s
}

// runs does many random runs, and tells what was before each step and is behind it.
func runs(t *testing.T, seed int64, times, steps int, tell func(c *pair, what string, was api.State, from int, e api.Errno)) map[string]int {
	t.Helper()
	ends := map[string]int{}
	for k := range times {
		r := rand.New(rand.NewSource(seed*100000 + int64(k)))
		s := firstState(r)
		c := &pair{opened(t, s), modelOf(s), r, ends}
		for range steps {
			was, from := c.x.State(), c.x.Version()
			what, n, e, m, f := c.step()
			same(t, what, []int{n, int(e)}, []int{m, int(f)})
			tell(c, what, was, from, e)
			if t.Failed() {
				t.Fatalf("run %d of seed %d", k, seed)
			}
		}
	}
	return ends
}

// 12.1 to 12.5: long runs of calls, held against the words.
func TestRuns(t *testing.T) {
	ends := runs(t, 12, 250, 80, func(c *pair, what string, was api.State, from int, e api.Errno) {
		c.held(t, what)
		if c.r.Intn(40) == 0 {
			c.x = c.x.Clone() // and the run goes on with the clone
		}
	})
	for _, end := range []string{
		"Put 0", "Put 2", "Put 40", "Delete 0", "Delete 2", "Delete 5", "Bind 0", "Bind 5", "Bind 120", "Bind 121", "Bind 122",
		"Hope 0", "Hope 5", "Hope 122", "Evict 0", "Evict 2", "Evict 5", "Evict 120", "Evict 123",
	} {
		if ends[end] < 20 {
			t.Errorf("%s: %d times", end, ends[end])
		}
	}
	if len(ends) != 19 {
		t.Errorf("other ends: %v", ends)
	}
}

// 12.6: behind each call the state is right, and all in it fits together; a refused call changes nothing.
func TestOnlyWhatMayBe(t *testing.T) {
	pairs, bound := 0, 0
	runs(t, 126, 250, 60, func(c *pair, what string, was api.State, from int, e api.Errno) {
		s := c.x.State()
		same(t, what+": CheckState", int(object.CheckState(s)), 0)
		same(t, what+": volume.Check", volume.Check(s), 0)
		_, e2 := store.New(s)
		same(t, what+": New of the state", int(e2), 0)
		if e != api.OK {
			same(t, what+" refused", []any{s, c.x.Version()}, []any{was, from})
		}
		pairs += len(s.Volumes) - len(volume.Free(s))
		for _, p := range s.Pods {
			if p.Node != "" {
				bound++
			}
		}
	})
	if pairs < 5000 || bound < 20000 {
		t.Errorf("%d pairs, %d bound pods", pairs, bound)
	}
}

// 12.7: a bound pod stays where it is till it is removed, in each state and in the log.
func TestNeverTwice(t *testing.T) {
	stays := 0
	runs(t, 127, 250, 60, func(c *pair, what string, was api.State, from int, e api.Errno) {
		removed := map[string]int{}
		where := map[string]string{}
		for _, p := range was.Pods {
			where[p.Name] = p.Node
		}
		for _, x := range c.x.Log(from) {
			p := x.Object.Pod
			if x.Object.Kind != api.KPod {
				continue
			}
			if where[p.Name] != "" && p.Node != where[p.Name] {
				t.Errorf("%s: %s stood on %s and stands on %s", what, p.Name, where[p.Name], p.Node)
			}
			where[p.Name] = p.Node
			if x.Op == api.Removed {
				removed[p.Name]++
				where[p.Name] = ""
			}
		}
		now := c.x.State()
		for _, p := range was.Pods {
			if p.Node == "" || removed[p.Name] > 0 {
				continue
			}
			stays++
			q, there := podIn(now, p.Name)
			same(t, what+" of a bound pod", []any{q.Node, q.Hope, there}, []any{p.Node, "", true})
		}
	})
	if stays < 20000 {
		t.Errorf("%d", stays)
	}
}

// 12.8: a bind that is taken finds the pod feasible just ahead of it, with those picks, and is what chapter 11 makes of it.
func TestSeenIsWhatIs(t *testing.T) {
	taken, picked := 0, 0
	runs(t, 128, 400, 60, func(c *pair, what string, was api.State, from int, e api.Errno) {
		if what != "Bind" || e != api.OK {
			return
		}
		log := c.x.Log(from)
		q := log[len(log)-1].Object.Pod
		p, _ := podIn(was, q.Name)
		why, picks := feasible.Check(was, p, q.Node)
		same(t, "why not", []any{why, p.Node}, []any{0, ""})
		s, f := feasible.Bind(was, q.Name, q.Node, picks)
		same(t, "what comes of it", []any{c.x.State(), int(f)}, []any{s, 0})
		taken++
		picked += len(picks)
	})
	if taken < 700 || picked < 100 {
		t.Errorf("%d binds, %d picks", taken, picked)
	}
}

// done is the log, change by change, done to a state.
func done(t *testing.T, s api.State, log []api.Change) api.State {
	t.Helper()
	for _, c := range log {
		kind, name := c.Object.Kind, object.Name(c.Object)
		was, there := object.Get(s, kind, name)
		same(t, "there is one ahead of the change", there, c.Op != api.Added)
		if c.Op == api.Removed {
			same(t, "as it was", c.Object, was)
			s, _ = object.Remove(s, kind, name)
			continue
		}
		u, _, e := object.Put(s, c.Object)
		same(t, "the change may be", int(e), 0)
		s = u
	}
	return s
}

// 12.9: the log, done change by change to the first state, comes to the state; so does each piece of it to the state at its beginning.
func TestLogComesToTheState(t *testing.T) {
	longest := 0
	runs(t, 129, 250, 90, func(c *pair, what string, was api.State, from int, e api.Errno) {
		same(t, what+": the last piece", done(t, was, c.x.Log(from)), c.x.State())
		if c.r.Intn(10) == 0 {
			log := c.x.Log(0)
			same(t, what+": the whole log", done(t, c.m.first, log), c.x.State())
			for k, x := range log {
				same(t, "versions rise by one", x.Version, k+1)
			}
			longest = max(longest, len(log))
		}
	})
	if longest < 40 {
		t.Errorf("the longest log has %d changes", longest)
	}
}
