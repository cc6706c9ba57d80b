package store_test

import (
	"fmt"
	"testing"

	"stevedore/api"
	"stevedore/store"
)

// 12.2: a bind without picks: one change, the pod is there and hopes for nothing any more.
func TestBind(t *testing.T) {
	x := opened(t, sample())
	taken(t, "a pod that hopes elsewhere", x, bind(x, asSeen(x, "q", "n")), "~ pod q @n")
	o, v, e := x.Get(api.KPod, "q")
	same(t, "Get", []any{o, v, int(e)}, []any{podOf(api.Pod{Name: "q", Priority: 9, Node: "n"}), 1, 0})
	same(t, "sights", []int{x.Sight("m"), x.Sight("n"), x.Sight("o")}, []int{0, 1, 0})
	refused(t, "again, there", x, bind(x, asSeen(x, "q", "n")), api.ErrBound)
	refused(t, "again, elsewhere", x, bind(x, asSeen(x, "q", "m")), api.ErrBound)
}

// 12.2: each pick's claim and then its volume are changed, in order, then the pod is.
func TestBindPicks(t *testing.T) {
	x := opened(t, sample())
	x.Put(podOf(api.Pod{Name: "one", Claims: []string{"cc", "cx"}}))
	taken(t, "several", x, bind(x, asSeen(x, "p", "m", "ca", "va", "cb", "vb")), "~ claim ca =va", "~ volume va =ca", "~ claim cb =vb", "~ volume vb =cb", "~ pod p @m")
	taken(t, "one, and one that has its volume", x, bind(x, asSeen(x, "one", "m", "cc", "vc")), "~ claim cc =vc", "~ volume vc =cc", "~ pod one @m")
	x.Put(podOf(api.Pod{Name: "two", Claims: []string{"ca", "cx"}}))
	taken(t, "none: all have theirs", x, bind(x, asSeen(x, "two", "m")), "~ pod two @m")
	same(t, "versions of claims", x.Versions(api.KClaim), []api.Item{{Key: "ca", Seq: 2}, {Key: "cb", Seq: 4}, {Key: "cc", Seq: 7}, {Key: "cx"}, {Key: "cy"}})
	same(t, "versions of volumes", x.Versions(api.KVolume), []api.Item{{Key: "va", Seq: 3}, {Key: "vb", Seq: 5}, {Key: "vc", Seq: 8}, {Key: "vx"}, {Key: "vy"}})
	_, v, _ := x.Get(api.KPod, "p")
	same(t, "version of the pod, sight of the node", []int{v, x.Sight("m")}, []int{6, 3})
	same(t, "what is in the log", x.Log(1)[0].Object, claimOf(api.Claim{Name: "ca", Size: 1, Class: "k", Volume: "va"}))
}

// 12.2: each reason alone, and which one counts where several apply.
func TestBindRefused(t *testing.T) {
	x := opened(t, sample())
	x.Put(podOf(api.Pod{Name: "p", Priority: 2, Claims: []string{"ca", "cb"}}))
	x.Put(nodeOf(node("m", "1")))
	x.Put(podOf(api.Pod{Name: "big", Want: api.Res{CPU: 1001}}))
	right := api.Bind{Pod: "p", Node: "m", PodSeen: 1, NodeSeen: 1, Picks: pairs("ca", "va", "cb", "vb")}
	for _, c := range []struct {
		what string
		do   func(b *api.Bind)
		want api.Errno
	}{
		{"no such pod", func(b *api.Bind) { b.Pod = "not-there" }, api.ErrNone},
		{"no pod's name", func(b *api.Bind) { b.Pod = "" }, api.ErrNone},
		{"no such node", func(b *api.Bind) { b.Node = "not-there" }, api.ErrNone},
		{"no node's name", func(b *api.Bind) { b.Node, b.NodeSeen = "", 0 }, api.ErrNone},
		{"a node's name for a pod", func(b *api.Bind) { b.Pod = "n" }, api.ErrNone},
		{"a pod's name for a node", func(b *api.Bind) { b.Node = "a" }, api.ErrNone},
		{"neither", func(b *api.Bind) { *b = api.Bind{} }, api.ErrNone},
		{"a bound pod, no such node", func(b *api.Bind) { b.Pod, b.Node = "a", "not-there" }, api.ErrNone},
		{"a bound pod", func(b *api.Bind) { b.Pod, b.PodSeen, b.Picks = "a", 0, nil }, api.ErrBound},
		{"a bound pod, all else wrong", func(b *api.Bind) { b.Pod, b.PodSeen, b.NodeSeen = "a", 7, 7 }, api.ErrBound},
		{"a bound pod, where it is", func(b *api.Bind) { b.Pod, b.Node, b.PodSeen, b.NodeSeen, b.Picks = "a", "n", 0, 0, nil }, api.ErrBound},
		{"the pod seen too early", func(b *api.Bind) { b.PodSeen = 0 }, api.ErrConflict},
		{"the pod seen too late", func(b *api.Bind) { b.PodSeen = 2 }, api.ErrConflict},
		{"the pod seen at the store's version", func(b *api.Bind) { b.PodSeen = 3 }, api.ErrConflict},
		{"the pod seen below 0", func(b *api.Bind) { b.PodSeen = -1 }, api.ErrConflict},
		{"the node seen too early", func(b *api.Bind) { b.NodeSeen = 0 }, api.ErrConflict},
		{"the node seen too late", func(b *api.Bind) { b.NodeSeen = 2 }, api.ErrConflict},
		{"the node seen below 0", func(b *api.Bind) { b.NodeSeen = -1 }, api.ErrConflict},
		{"the one too early, the other too late", func(b *api.Bind) { b.PodSeen, b.NodeSeen = 0, 2 }, api.ErrConflict},
		{"the node seen too early, and it may not", func(b *api.Bind) { b.Pod, b.PodSeen, b.NodeSeen = "big", 3, 0 }, api.ErrConflict},
		{"the pod seen too early, other picks", func(b *api.Bind) { b.PodSeen, b.Picks = 0, nil }, api.ErrConflict},
		{"it may not stand there", func(b *api.Bind) { b.Pod, b.PodSeen, b.Picks = "big", 3, nil }, api.ErrUnfit},
		{"it may not stand there, with picks", func(b *api.Bind) { b.Pod, b.PodSeen = "big", 3 }, api.ErrUnfit},
		{"no picks", func(b *api.Bind) { b.Picks = nil }, api.ErrUnfit},
		{"too few", func(b *api.Bind) { b.Picks = pairs("ca", "va") }, api.ErrUnfit},
		{"too few, the last", func(b *api.Bind) { b.Picks = pairs("cb", "vb") }, api.ErrUnfit},
		{"too many", func(b *api.Bind) { b.Picks = pairs("ca", "va", "cb", "vb", "cc", "vc") }, api.ErrUnfit},
		{"one twice", func(b *api.Bind) { b.Picks = pairs("ca", "va", "cb", "vb", "cb", "vb") }, api.ErrUnfit},
		{"in another order", func(b *api.Bind) { b.Picks = pairs("cb", "vb", "ca", "va") }, api.ErrUnfit},
		{"another volume that would do", func(b *api.Bind) { b.Picks = pairs("ca", "va", "cb", "vc") }, api.ErrUnfit},
		{"another claim", func(b *api.Bind) { b.Picks = pairs("ca", "va", "cc", "vb") }, api.ErrUnfit},
		{"what is not there", func(b *api.Bind) { b.Picks = pairs("not", "there", "cb", "vb") }, api.ErrUnfit},
		{"empty picks", func(b *api.Bind) { b.Picks = pairs("", "", "", "") }, api.ErrUnfit},
		{"picks of a pod that has no claims", func(b *api.Bind) { b.Pod, b.PodSeen = "q", 0 }, api.ErrUnfit},
	} {
		b := right
		c.do(&b)
		refused(t, c.what, x, bind(x, b), c.want)
	}
	taken(t, "nothing is against it", x, bind(x, right), "~ claim ca =va", "~ volume va =ca", "~ claim cb =vb", "~ volume vb =cb", "~ pod p @m")
}

// 12.2: each thing that chapter 11 may have against a pod is asked.
func TestBindUnfit(t *testing.T) {
	with := func(edit func(s *api.State)) *store.Store {
		s := sample()
		edit(&s)
		return opened(t, s)
	}
	term := []api.Term{{Key: "zone", Reqs: asks("app", "x")}}
	for what, x := range map[string]*store.Store{
		"off":      with(func(s *api.State) { s.Nodes[1].Off = true }),
		"taint":    with(func(s *api.State) { s.Nodes[1].Taints = []api.Taint{{Key: "gpu", Effect: api.EffectKeep}} }),
		"asks":     with(func(s *api.State) { s.Pods[4].Asks = asks("zone", "2") }),
		"ports":    with(func(s *api.State) { s.Pods[4].Ports, s.Pods[0].Ports = []int{80}, []int{80} }),
		"pods":     with(func(s *api.State) { s.Nodes[1].Pods = 2 }),
		"CPU":      with(func(s *api.State) { s.Pods[4].Want.CPU, s.Pods[1].Want.CPU = 500, 501 }),
		"memory":   with(func(s *api.State) { s.Pods[4].Want.Mem, s.Pods[1].Want.Mem = 500, 501 }),
		"disk":     with(func(s *api.State) { s.Pods[4].Want.Disk, s.Pods[1].Want.Disk = 500, 501 }),
		"near":     with(func(s *api.State) { s.Pods[4].Near = term }),
		"apart":    with(func(s *api.State) { s.Pods[4].Apart = []api.Term{{Key: "zone"}} }),
		"others":   with(func(s *api.State) { s.Pods[0].Apart = []api.Term{{Key: "zone"}} }),
		"spread":   with(func(s *api.State) { s.Pods[4].Spreads = []api.Spread{{Key: "zone", Skew: 1}} }),
		"no claim": with(func(s *api.State) { s.Pods[4].Claims = []string{"not-there"} }),
		"volume":   with(func(s *api.State) { s.Pods[4].Claims, s.Claims[0].Size = []string{"ca"}, 99 }),
		"disks":    with(func(s *api.State) { s.Pods[4].Claims, s.Nodes[1].Disks = []string{"cx"}, 0 }),
	} {
		refused(t, what, x, bind(x, asSeen(x, "q", "n")), api.ErrUnfit)
	}
	x := with(func(s *api.State) {})
	comesTo(t, "nothing is against it", bind(x, asSeen(x, "q", "n")), 1)
}

// 12.2: what was seen is held against what is: each change of the pod or of the node since is a conflict, others are none.
func TestBindConflict(t *testing.T) {
	for _, c := range []struct {
		what string
		do   func(x *store.Store) (int, api.Errno)
		want api.Errno
	}{
		{"the pod put", func(x *store.Store) (int, api.Errno) { return x.Put(podOf(api.Pod{Name: "q", Priority: 9})) }, api.ErrConflict},
		{"the pod's hope", func(x *store.Store) (int, api.Errno) { return x.Hope("q", "n") }, api.ErrConflict},
		{"the node put", func(x *store.Store) (int, api.Errno) { return x.Put(nodeOf(node("n", "1"))) }, api.ErrConflict},
		{"a pod there put", func(x *store.Store) (int, api.Errno) { return x.Put(podOf(api.Pod{Name: "a"})) }, api.ErrConflict},
		{"a pod there gone", func(x *store.Store) (int, api.Errno) { return x.Delete(api.KPod, "a") }, api.ErrConflict},
		{"a pod there put out", func(x *store.Store) (int, api.Errno) { return x.Evict(outOf(x, "p", "n", "a")) }, api.ErrConflict},
		{"a pod bound there", func(x *store.Store) (int, api.Errno) {
			return x.Bind(asSeen(x, "p", "n", "ca", "va", "cb", "vb"))
		}, api.ErrConflict},
		{"the node gone", func(x *store.Store) (int, api.Errno) { return x.Delete(api.KNode, "n") }, api.ErrNone},
		{"the pod gone", func(x *store.Store) (int, api.Errno) { return x.Delete(api.KPod, "q") }, api.ErrNone},
		{"the pod bound elsewhere", func(x *store.Store) (int, api.Errno) { return x.Bind(asSeen(x, "q", "m")) }, api.ErrBound},
		{"a pod elsewhere put", func(x *store.Store) (int, api.Errno) { return x.Put(podOf(api.Pod{Name: "c"})) }, api.OK},
		{"a pod that waits put", func(x *store.Store) (int, api.Errno) { return x.Put(podOf(api.Pod{Name: "p"})) }, api.OK},
		{"another's hope for the node", func(x *store.Store) (int, api.Errno) { return x.Hope("p", "n") }, api.OK},
		{"another node put", func(x *store.Store) (int, api.Errno) { return x.Put(nodeOf(node("o", "2"))) }, api.OK},
		{"a pod bound elsewhere", func(x *store.Store) (int, api.Errno) {
			return x.Bind(asSeen(x, "p", "m", "ca", "va", "cb", "vb"))
		}, api.OK},
		{"a volume put", func(x *store.Store) (int, api.Errno) { return x.Put(bare(api.KVolume, "q")) }, api.OK},
	} {
		x := opened(t, sample())
		b := asSeen(x, "q", "n")
		_, e := c.do(x)
		same(t, c.what, int(e), 0)
		n, e := x.Bind(b)
		same(t, "a bind behind "+c.what, int(e), int(c.want))
		same(t, "the version of a bind behind "+c.what, n > 0, c.want == api.OK)
	}
}

// 12.2: a pod that was removed and put again is not the one that was seen.
func TestBindAgain(t *testing.T) {
	x := opened(t, sample())
	b := asSeen(x, "q", "n")
	x.Delete(api.KPod, "q")
	x.Put(podOf(api.Pod{Name: "q"}))
	refused(t, "another pod of that name", x, bind(x, b), api.ErrConflict)
	b = asSeen(x, "q", "m")
	x.Delete(api.KNode, "m")
	x.Put(nodeOf(node("m", "1")))
	refused(t, "another node of that name", x, bind(x, b), api.ErrConflict)
	b.NodeSeen = 2
	taken(t, "seen as it is", x, bind(x, b), "~ pod q @m")
}

// 12.3: a hope is a change, also one that changes nothing.
func TestHope(t *testing.T) {
	x := opened(t, sample())
	taken(t, "for a node", x, hope(x, "p", "n"), "~ pod p ?n")
	taken(t, "for another", x, hope(x, "p", "m"), "~ pod p ?m")
	taken(t, "for the same", x, hope(x, "p", "m"), "~ pod p ?m")
	taken(t, "for none", x, hope(x, "p", ""), "~ pod p")
	taken(t, "for none again", x, hope(x, "p", ""), "~ pod p")
	taken(t, "of one that hopes", x, hope(x, "q", ""), "~ pod q")
	same(t, "sights", []int{x.Sight("m"), x.Sight("n"), x.Sight("o")}, []int{0, 0, 0})
	same(t, "versions", x.Versions(api.KPod), []api.Item{{Key: "a"}, {Key: "b"}, {Key: "c"}, {Key: "p", Seq: 5}, {Key: "q", Seq: 6}})
	o, _, _ := x.Get(api.KPod, "p")
	same(t, "the rest stays", o, podOf(api.Pod{Name: "p", Priority: 2, Claims: []string{"ca", "cb"}}))
	taken(t, "for a node where it may not stand", x, put(x, nodeOf(api.Node{Name: "new", Off: true})), "+ node new")
	taken(t, "for a node where it may not stand", x, hope(x, "p", "new"), "~ pod p ?new")
}

// 12.3: each reason alone, and which one counts.
func TestHopeRefused(t *testing.T) {
	x := opened(t, sample())
	for _, c := range []struct {
		pod, node string
		want      api.Errno
	}{
		{"not-there", "n", api.ErrNone},
		{"not-there", "", api.ErrNone},
		{"", "n", api.ErrNone},
		{"", "", api.ErrNone},
		{"n", "n", api.ErrNone},
		{"p", "not-there", api.ErrNone},
		{"p", "a", api.ErrNone},
		{"not-there", "not-there", api.ErrNone},
		{"a", "not-there", api.ErrNone},
		{"a", "n", api.ErrBound},
		{"a", "m", api.ErrBound},
		{"a", "", api.ErrBound},
	} {
		refused(t, fmt.Sprintf("Hope(%q, %q)", c.pod, c.node), x, hope(x, c.pod, c.node), c.want)
	}
}
