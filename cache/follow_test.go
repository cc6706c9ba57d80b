package cache_test

import (
	"fmt"
	"math"
	"math/rand"
	"slices"
	"testing"

	"stevedore/api"
	"stevedore/cache"
	"stevedore/store"
	"stevedore/watch"
)

// pair is a cache, and the model beside it.
type pair struct {
	c   *cache.Cache
	m   *model
	now int
}

// both holds what the cache answers against what the model does.
func (x *pair) both(t *testing.T, what string, got, want any) {
	t.Helper()
	if fmt.Sprintf("%+v", got) != fmt.Sprintf("%+v", want) {
		t.Fatalf("%s: %+v, want %+v", what, got, want)
	}
}

func pick[T any](r *rand.Rand, l []T) T { return l[r.Intn(len(l))] }

// poolOf is few names for each kind, so that calls meet; some of them are names of another kind, too.
func poolOf(kind int) []string {
	return map[int][]string{
		api.KPod: {"p", "q", "r", "a", "n", "Z"}, api.KNode: {"m", "n", "o"}, api.KVolume: {"v", "w", "x"},
		api.KClaim: {"c", "d", "e", "v"}, api.KClass: {"k", "b"}, api.KBudget: {"g", "b"},
	}[kind]
}

// someName is mostly one of the kind's pool, at times any one.
func someName(r *rand.Rand, kind int) string {
	if r.Intn(12) == 0 || len(poolOf(kind)) == 0 {
		return pick(r, someNames())
	}
	return pick(r, poolOf(kind))
}

// orNone is one of the pool, or none.
func orNone(r *rand.Rand, kind int) string {
	if r.Intn(3) > 0 {
		return ""
	}
	return someName(r, kind)
}

func someKind(r *rand.Rand) int {
	if r.Intn(15) == 0 {
		return pick(r, noKinds())
	}
	if r.Intn(2) == 0 {
		return pick(r, []int{api.KPod, api.KNode})
	}
	return pick(r, allKinds())
}

// someObject is one of a kind, with something in its members that the cache asks of.
func someObject(r *rand.Rand, kind int) api.Object {
	o := full(kind, someName(r, kind), r.Intn(3))
	if r.Intn(2) == 0 {
		o = bare(kind, nameOf(o))
	}
	switch kind {
	case api.KPod:
		o.Pod.Node, o.Pod.Hope = orNone(r, api.KNode), orNone(r, api.KNode)
	case api.KVolume:
		o.Volume.Claim = orNone(r, api.KClaim)
	case api.KClaim:
		o.Claim.Volume = orNone(r, api.KVolume)
	}
	return o
}

// someState has objects of all kinds, names of which may stand twice, in any order.
func someState(r *rand.Rand) api.State {
	var l []api.Object
	for range r.Intn(14) {
		l = append(l, someObject(r, pick(r, allKinds())))
	}
	return stateOf(l...)
}

func someItems(r *rand.Rand) []api.Item {
	var l []api.Item
	for range r.Intn(8) {
		l = append(l, api.Item{Key: someName(r, pick(r, allKinds())), Rank: r.Intn(3), Seq: r.Intn(50) - 2})
	}
	return l
}

func somePicks(r *rand.Rand) []api.Pick {
	var l []api.Pick
	for range r.Intn(4) {
		l = append(l, api.Pick{Claim: someName(r, api.KClaim), Volume: someName(r, api.KVolume)})
	}
	return l
}

// someNow is mostly the run's moment, at times any one.
func (x *pair) someNow(r *rand.Rand) int {
	switch r.Intn(12) {
	case 0:
		return pick(r, noNows())
	case 1:
		return pick(r, []int{0, lastNow - 17, lastNow - 16, lastNow})
	}
	return max(0, x.now-r.Intn(4))
}

// step does one call to both, drawn, and tells what was answered.
func (x *pair) step(t *testing.T, r *rand.Rand) api.Errno {
	t.Helper()
	x.now += r.Intn(2)
	pod := someName(r, api.KPod)
	var e api.Errno
	switch r.Intn(13) {
	case 0, 1, 2, 3:
		op := 1 + r.Intn(3)
		if r.Intn(20) == 0 {
			op = pick(r, noOps())
		}
		y := change(r.Intn(100), op, someObject(r, someKind(r)))
		e = x.c.Tell(y)
		x.both(t, fmt.Sprintf("Tell(%+v)", y), e, x.m.Tell(y))
	case 4:
		kind, s, versions, sights := someKind(r), someState(r), someItems(r), someItems(r)
		e = x.c.List(kind, s, versions, sights)
		x.both(t, "List", e, x.m.List(kind, s, versions, sights))
	case 5, 6, 7, 8:
		node, picks := someName(r, api.KNode), somePicks(r)
		e = x.c.Assume(pod, node, picks)
		x.both(t, "Assume", e, x.m.Assume(pod, node, picks))
	case 9, 10:
		now := x.someNow(r)
		e = x.c.Arm(pod, now)
		x.both(t, "Arm", e, x.m.Arm(pod, now))
	case 11:
		if r.Intn(3) == 0 {
			e = x.c.Forget(pod)
			x.both(t, "Forget", e, x.m.Forget(pod))
			break
		}
		now := x.someNow(r)
		l, f := x.c.Expire(now)
		l2, f2 := x.m.Expire(now)
		x.both(t, "Expire", []any{l, f}, []any{l2, f2})
		e = f
	case 12:
		x.c = x.c.Clone()
	}
	return e
}

// 15.1 to 15.3: long runs of all calls, held against the words; what is refused changes nothing (P2).
func TestByWords(t *testing.T) {
	r := rand.New(rand.NewSource(15))
	ends := map[api.Errno]int{}
	for range 40 {
		x := &pair{c: cache.New(), m: newModel()}
		was := look(x.c)
		for range 60 {
			e := x.step(t, r)
			is := look(x.c)
			same(t, "what is told", is, lookAtModel(x.m))
			if e != api.OK {
				same(t, "what is told behind a call that is refused", is, was)
			}
			if was = is; t.Failed() {
				return
			}
			ends[e]++
		}
	}
	for _, e := range []api.Errno{api.OK, api.ErrArg, api.ErrNone, api.ErrBound, api.ErrAssumed} {
		if ends[e] < 10 {
			t.Errorf("%d came %d times", e, ends[e])
		}
	}
}

// 15.1 to 15.3: the same calls come to the same, whatever the order of a map.
func TestSameAgain(t *testing.T) {
	for seed := range int64(15) {
		var was told
		for n := range 4 {
			r := rand.New(rand.NewSource(seed))
			x := &pair{c: cache.New(), m: newModel()}
			for range 100 {
				x.step(t, r)
			}
			if n == 0 {
				was = look(x.c)
			}
			same(t, "again", look(x.c), was)
		}
	}
}

// 15.5: in any cache an Assume that is taken and a Forget leave all as it was; a pod that is told to be bound where it is assumed, and nothing else of it, leaves where the belief has everybody.
func TestLeavesBelief(t *testing.T) {
	r := rand.New(rand.NewSource(155))
	taken, told := 0, 0
	for range 30 {
		x := &pair{c: cache.New(), m: newModel()}
		for range 60 {
			x.step(t, r)
			was := look(x.c)
			pod, node := someName(r, api.KPod), someName(r, api.KNode)
			if x.c.Assume(pod, node, somePicks(r)) == api.OK {
				taken++
				forget(t, x.c, pod)
				same(t, "assumed and forgotten", look(x.c), was)
			}
			for pod, g := range x.m.assumed {
				told++
				c, o := x.c.Clone(), x.m.known[id{api.KPod, pod}].object
				o.Pod.Node, o.Pod.Hope = g.node, ""
				tell(t, c, 7, api.Changed, o)
				same(t, "told where it was assumed: pods", c.Belief().Pods, was.belief.Pods)
			}
			if t.Failed() {
				return
			}
		}
	}
	if taken < 50 || told < 100 {
		t.Errorf("%d taken, %d told", taken, told)
	}
}

// 15.6: in any cache whoever is armed is assumed no more behind an Expire 16 ticks later; who is not armed stays.
func TestNobodyForEver(t *testing.T) {
	r := rand.New(rand.NewSource(156))
	for range 200 {
		x := &pair{c: cache.New(), m: newModel()}
		for range 80 {
			x.step(t, r)
		}
		for _, pod := range x.c.Assumed() {
			if r.Intn(3) > 0 {
				g := x.m.assumed[pod]
				arm(t, x.c, pod, 1000)
				g.armed, g.till = true, 1016
				x.m.assumed[pod] = g
			}
		}
		x.c.Expire(1015)
		x.c.Expire(1016)
		for _, pod := range x.c.Assumed() {
			if g := x.m.assumed[pod]; g.armed && g.till <= 1016 {
				t.Fatalf("%s is assumed still", pod)
			}
		}
		for pod, g := range x.m.assumed {
			if !g.armed && !slices.Contains(x.c.Assumed(), pod) {
				t.Fatalf("%s is assumed no more", pod)
			}
		}
	}
}

// 15.7: Belief and Told differ only by who is assumed, and by their picks.
func TestBeliefAndTold(t *testing.T) {
	r := rand.New(rand.NewSource(157))
	differ := 0
	for range 300 {
		x := &pair{c: cache.New(), m: newModel()}
		for range 60 {
			x.step(t, r)
		}
		a, b := x.c.Belief(), x.c.Told()
		same(t, "all other kinds", []any{a.Nodes, a.Classes, a.Budgets}, []any{b.Nodes, b.Classes, b.Budgets})
		same(t, "how many", []int{len(a.Pods), len(a.Claims), len(a.Volumes)}, []int{len(b.Pods), len(b.Claims), len(b.Volumes)})
		picked := map[api.Pick]int{}
		for _, g := range x.m.assumed {
			for _, y := range g.picks {
				picked[y]++
			}
		}
		for k, p := range a.Pods {
			if slices.Contains(x.c.Assumed(), p.Name) {
				differ++
				same(t, "where it is", []string{p.Node, p.Hope, b.Pods[k].Node}, []string{x.m.assumed[p.Name].node, "", ""})
				a.Pods[k].Node, a.Pods[k].Hope = "", b.Pods[k].Hope
			}
		}
		for k, y := range a.Claims {
			if y.Volume != b.Claims[k].Volume {
				differ++
				same(t, "a pick, of what had nothing", []any{picked[api.Pick{Claim: y.Name, Volume: y.Volume}] > 0, b.Claims[k].Volume}, []any{true, ""})
				a.Claims[k].Volume = ""
			}
		}
		for k, y := range a.Volumes {
			if y.Claim != b.Volumes[k].Claim {
				same(t, "a pick, of what was free", []any{picked[api.Pick{Claim: y.Claim, Volume: y.Name}] > 0, b.Volumes[k].Claim}, []any{true, ""})
				a.Volumes[k].Claim = ""
			}
		}
		same(t, "all else", a, b)
		for _, pod := range x.c.Assumed() {
			forget(t, x.c, pod)
		}
		same(t, "nobody is assumed", x.c.Belief(), b)
		if t.Failed() {
			return
		}
	}
	if differ < 100 {
		t.Errorf("%d differ", differ)
	}
}

// busy does something to a store, drawn; what it refuses is no change.
func busy(r *rand.Rand, x *store.Store) {
	pod, node := pick(r, poolOf(api.KPod)), pick(r, poolOf(api.KNode))
	kind := pick(r, allKinds())
	switch r.Intn(8) {
	case 0, 1, 2:
		x.Put(placeable(r, kind))
	case 3:
		x.Delete(kind, pick(r, poolOf(kind)))
	case 4, 5, 6:
		_, v, _ := x.Get(api.KPod, pod)
		b := api.Bind{Pod: pod, Node: node, PodSeen: v, NodeSeen: x.Sight(node)}
		for _, picks := range [][]api.Pick{nil, pairs("c", "v"), pairs("c", "w"), pairs("c", "x")} {
			b.Picks = picks
			x.Bind(b)
		}
	case 7:
		x.Hope(pod, node)
		x.Evict(api.Evict{For: "Z", Node: node, NodeSeen: x.Sight(node), Victims: []string{pod}})
	}
}

// placeable is an object that a store takes; pods fit on nodes, claims into volumes.
func placeable(r *rand.Rand, kind int) api.Object {
	o := bare(kind, pick(r, poolOf(kind)))
	switch kind {
	case api.KPod:
		if o.Pod.Priority = r.Intn(3); o.Pod.Name == "Z" {
			o.Pod.Priority = 9
		}
		if r.Intn(2) == 0 {
			o.Pod.Claims = []string{"c"}
		}
	case api.KNode:
		o.Node.Pods, o.Node.Disks = 9, 9
	case api.KVolume:
		o.Volume.Class, o.Volume.Size = "k", r.Intn(4)
	case api.KClaim:
		o.Claim.Class, o.Claim.Size = "k", r.Intn(3)
	case api.KClass:
		o.Class.Wait = true
	}
	return o
}

// asTheStore asks that a cache was told just what a store has: objects, versions, sights.
func asTheStore(t *testing.T, what string, c *cache.Cache, x *store.Store) {
	t.Helper()
	same(t, what+": Told", c.Told(), x.State())
	same(t, what+": Belief", c.Belief(), x.State())
	for _, kind := range allKinds() {
		for _, name := range poolOf(kind) {
			_, v, _ := x.Get(kind, name)
			same(t, fmt.Sprint(what, ": Seen ", kind, " ", name), c.Seen(kind, name), v)
			same(t, what+": Sight "+name, c.Sight(name), x.Sight(name))
		}
	}
}

// 15.4: what is told change by change, of a log from the first one on, is the state that the log comes to, at each version; so are versions and sights, and behind a list of each kind, too.
func TestToldByLog(t *testing.T) {
	ops, binds, moved := map[int]int{}, 0, 0
	for seed := range int64(60) {
		r := rand.New(rand.NewSource(seed))
		x, _ := store.New(api.State{})
		c := cache.New()
		for n := range 80 {
			from := x.Version()
			busy(r, x)
			log := x.Log(from)
			for _, y := range log {
				tell(t, c, y.Version, y.Op, y.Object)
				ops[y.Op]++
				if y.Object.Pod.Node != "" {
					binds++
				}
			}
			asTheStore(t, "told", c, x)
			if n%20 == 19 {
				moved += len(x.State().Pods)
				d := cache.New()
				for _, kind := range allKinds() {
					list(t, d, kind, x.State(), x.Versions(kind), x.Sights(kind))
				}
				asTheStore(t, "listed", d, x)
				same(t, "listed and told", look(d), look(c))
				if seed%2 == 0 {
					c = d
				}
			}
			if t.Failed() {
				t.Fatalf("seed %d, step %d", seed, n)
			}
		}
	}
	if ops[api.Added] < 200 || ops[api.Changed] < 200 || ops[api.Removed] < 200 || binds < 100 || moved < 200 {
		t.Errorf("drawn: %v, %d binds, %d pods", ops, binds, moved)
	}
}

// 15.4: the log comes late, each kind for itself, at times cut off and listed anew: when all is there it is what the store has.
func TestToldLate(t *testing.T) {
	for seed := range int64(60) {
		r := rand.New(rand.NewSource(seed))
		x, _ := store.New(api.State{})
		c, w := cache.New(), watch.New(0)
		deliver := func(kind, n int) {
			l, e := w.Next(kind, n, x.Log(0))
			if e == api.ErrGone {
				w.List(kind, x.Version())
				list(t, c, kind, x.State(), x.Versions(kind), x.Sights(kind))
			}
			for _, y := range l {
				tell(t, c, y.Version, y.Op, y.Object)
			}
		}
		for range 120 {
			switch r.Intn(12) {
			case 0, 1, 2, 3, 4, 5, 6:
				busy(r, x)
			case 7:
				w.Cut(pick(r, allKinds()))
			case 8:
				c.Assume(pick(r, poolOf(api.KPod)), pick(r, poolOf(api.KNode)), pairs("c", "v"))
			default:
				deliver(pick(r, allKinds()), r.Intn(6))
			}
		}
		for _, kind := range allKinds() {
			deliver(kind, math.MaxInt)
		}
		for _, pod := range c.Assumed() {
			forget(t, c, pod)
		}
		asTheStore(t, "all is there", c, x)
		if t.Failed() {
			t.Fatalf("seed %d", seed)
		}
	}
}
