package store_test

import (
	"fmt"
	"math"
	"testing"

	"stevedore/api"
	"stevedore/store"
)

// 12.5: a node's sight behind each kind of change.
func TestSight(t *testing.T) {
	x := opened(t, sample())
	for _, c := range []struct {
		what    string
		do      func() (int, api.Errno)
		m, n, o int
	}{
		{"a put of a node", put(x, nodeOf(node("n", "1"))), 0, 1, 0},
		{"a put of a pod that waits", put(x, podOf(api.Pod{Name: "q", Node: "n", Priority: 9})), 0, 1, 0},
		{"a put of a new pod", put(x, podOf(api.Pod{Name: "r", Node: "n"})), 0, 1, 0},
		{"a put of a bound pod", put(x, podOf(api.Pod{Name: "a", Node: "m"})), 0, 2, 0},
		{"the same put", put(x, podOf(api.Pod{Name: "a", Node: "m"})), 0, 3, 0},
		{"a put of a pod bound elsewhere", put(x, podOf(api.Pod{Name: "c"})), 0, 3, 1},
		{"a hope", hope(x, "q", "n"), 0, 3, 1},
		{"a hope for none", hope(x, "q", ""), 0, 3, 1},
		{"a bind", func() (int, api.Errno) { return x.Bind(asSeen(x, "r", "m")) }, 1, 3, 1},
		{"a bind with picks", func() (int, api.Errno) { return x.Bind(asSeen(x, "p", "m", "ca", "va", "cb", "vb")) }, 2, 3, 1},
		{"a put of a claim that is in use there", put(x, claimOf(api.Claim{Name: "ca", Class: "k"})), 2, 3, 1},
		{"a put of a volume", put(x, volumeOf(api.Volume{Name: "va", Class: "k"})), 2, 3, 1},
		{"a claim that goes", del(x, api.KClaim, "ca"), 2, 3, 1},
		{"a volume that goes", del(x, api.KVolume, "vy"), 2, 3, 1},
		{"a class and a budget", put(x, bare(api.KClass, "n")), 2, 3, 1},
		{"a budget of a node's name", put(x, bare(api.KBudget, "n")), 2, 3, 1},
		{"a pod of a node's name", put(x, bare(api.KPod, "n")), 2, 3, 1},
		{"it goes", del(x, api.KPod, "n"), 2, 3, 1},
		{"a class of a node's name goes", del(x, api.KClass, "n"), 2, 3, 1},
		{"a bound pod that goes", del(x, api.KPod, "r"), 3, 3, 1},
		{"a pod that waits and goes", func() (int, api.Errno) { x.Put(bare(api.KPod, "w")); return x.Delete(api.KPod, "w") }, 3, 3, 1},
		{"an eviction", func() (int, api.Errno) { return x.Evict(outOf(x, "q", "n", "b", "a")) }, 3, 5, 1},
		{"a node that goes with its pod", del(x, api.KNode, "o"), 3, 5, 0},
		{"a node that goes alone", del(x, api.KNode, "n"), 3, 0, 0},
		{"a node that comes again", put(x, nodeOf(node("n", "2"))), 3, 7, 0},
		{"another that comes again", put(x, nodeOf(node("o", "2"))), 3, 7, 4},
		{"a put of a node again", put(x, nodeOf(node("o", "2"))), 3, 7, 5},
	} {
		_, e := c.do()
		same(t, c.what, []int{int(e), x.Sight("m"), x.Sight("n"), x.Sight("o")}, []int{0, c.m, c.n, c.o})
		same(t, c.what+": nodes that are not there", []int{x.Sight(""), x.Sight("not-there"), x.Sight("p"), x.Sight("g")}, []int{0, 0, 0, 0})
	}
}

// 12.5: the versions of each kind, in order of names, and of objects that are there alone.
func TestVersions(t *testing.T) {
	for _, kind := range allKinds() {
		x := opened(t, stateOf(bare(kind, "d"), bare(kind, "f")))
		for _, name := range []string{"e", "f", "b", "f", "a"} {
			comesTo(t, name, put(x, bare(kind, name)), x.Version()+1)
		}
		same(t, fmt.Sprint("kind ", kind), x.Versions(kind), []api.Item{{Key: "a", Seq: 5}, {Key: "b", Seq: 3}, {Key: "d"}, {Key: "e", Seq: 1}, {Key: "f", Seq: 4}})
		comesTo(t, "f goes", del(x, kind, "f"), 6)
		same(t, fmt.Sprint("kind ", kind, " without f"), x.Versions(kind), []api.Item{{Key: "a", Seq: 5}, {Key: "b", Seq: 3}, {Key: "d"}, {Key: "e", Seq: 1}})
		_, v, e := x.Get(kind, "f")
		same(t, "Get of what is gone", []int{v, int(e)}, []int{0, int(api.ErrNone)})
		comesTo(t, "f comes again", put(x, bare(kind, "f")), 7)
		_, v, e = x.Get(kind, "f")
		same(t, "Get of what came again", []int{v, int(e)}, []int{7, 0})
		_, v, e = x.Get(kind, "d")
		same(t, "Get of what has not changed", []int{v, int(e)}, []int{0, 0})
		for _, other := range append(allKinds(), noKinds()...) {
			if other != kind {
				same(t, fmt.Sprint("kind ", other), x.Versions(other), []api.Item{})
			}
		}
	}
}

// 12.5: objects of one name and of several kinds have versions of their own.
func TestVersionsOfOneName(t *testing.T) {
	x := opened(t, api.State{})
	for _, kind := range allKinds() {
		comesTo(t, "put", put(x, bare(kind, "a")), kind)
	}
	comesTo(t, "Delete", del(x, api.KClaim, "a"), 7)
	for _, kind := range allKinds() {
		o, v, e := x.Get(kind, "a")
		if kind == api.KClaim {
			same(t, "the claim", []any{o, v, int(e)}, []any{api.Object{}, 0, int(api.ErrNone)})
			continue
		}
		same(t, fmt.Sprint("kind ", kind), []any{o, v, int(e)}, []any{bare(kind, "a"), kind, 0})
	}
}

// 12.5: the sights of nodes and of pods, by the nodes' names, rising; of other kinds none.
func TestSights(t *testing.T) {
	x := opened(t, sample())
	x.Put(bare(api.KNode, "z"))
	x.Put(nodeOf(node("m", "1")))
	x.Put(nodeOf(node("m", "1")))
	x.Put(podOf(api.Pod{Name: "c"}))
	x.Put(podOf(api.Pod{Name: "b", Priority: 2}))
	x.Put(podOf(api.Pod{Name: "q", Priority: 9}))
	x.Bind(asSeen(x, "q", "m"))
	same(t, "of nodes", x.Sights(api.KNode), []api.Item{{Key: "m", Seq: 2}, {Key: "z", Seq: 1}})
	same(t, "of pods", x.Sights(api.KPod), []api.Item{{Key: "m", Seq: 1}, {Key: "n", Seq: 1}, {Key: "o", Seq: 1}})
	x.Delete(api.KNode, "n")
	x.Delete(api.KNode, "z")
	same(t, "of nodes that are gone, too", x.Sights(api.KNode), []api.Item{{Key: "m", Seq: 2}, {Key: "n", Seq: 1}, {Key: "z", Seq: 2}})
	same(t, "of pods of nodes that are gone, too", x.Sights(api.KPod), []api.Item{{Key: "m", Seq: 1}, {Key: "n", Seq: 3}, {Key: "o", Seq: 1}})
	x.Put(bare(api.KNode, "n"))
	same(t, "of one that came again", []any{x.Sights(api.KNode)[1], x.Sight("n")}, []any{api.Item{Key: "n", Seq: 2}, 5})
	for _, kind := range []int{api.KVolume, api.KClaim, api.KClass, api.KBudget, 0, 7, -1, math.MinInt, math.MaxInt} {
		same(t, fmt.Sprint("of kind ", kind), x.Sights(kind), []api.Item{})
	}
}

// 12.5: sights in the order of names, however many there are.
func TestSightsRise(t *testing.T) {
	x := opened(t, api.State{})
	var want []api.Item
	for _, o := range many(api.KNode, 200) {
		want = append(want, api.Item{Key: o.Node.Name, Seq: 1})
	}
	for k := range want {
		x.Put(bare(api.KNode, want[k*77%200].Key))
	}
	for range 5 {
		same(t, "Sights", x.Sights(api.KNode), want)
	}
}

// 12.5: kinds and names that there are not.
func TestGetNone(t *testing.T) {
	x := opened(t, sample())
	x.Put(bare(api.KPod, "new"))
	for _, kind := range noKinds() {
		for _, name := range []string{"p", "", "new"} {
			o, v, e := x.Get(kind, name)
			same(t, fmt.Sprint("kind ", kind), []any{o, v, int(e)}, []any{api.Object{}, 0, int(api.ErrArg)})
		}
	}
	for _, kind := range allKinds() {
		for _, name := range []string{"", "not-there", "A!"} {
			o, v, e := x.Get(kind, name)
			same(t, fmt.Sprint("kind ", kind, " ", name), []any{o, v, int(e)}, []any{api.Object{}, 0, int(api.ErrNone)})
		}
	}
}

// 12.5: the log behind each number.
func TestLog(t *testing.T) {
	x := opened(t, sample())
	x.Put(bare(api.KNode, "z"))
	x.Put(podOf(api.Pod{Name: "r", Node: "z"}))
	x.Bind(asSeen(x, "p", "m", "ca", "va", "cb", "vb"))
	x.Delete(api.KNode, "o")
	all := []string{"1 + node z", "2 + pod r", "3 ~ claim ca =va", "4 ~ volume va =ca", "5 ~ claim cb =vb", "6 ~ volume vb =cb", "7 ~ pod p @m", "8 - pod c @o", "9 - node o"}
	same(t, "Version", x.Version(), 9)
	for from := -3; from < 12; from++ {
		same(t, fmt.Sprint("Log(", from, ")"), lines(x.Log(from)), all[min(max(from, 0), 9):])
	}
	same(t, "far below", lines(x.Log(math.MinInt)), all)
	same(t, "far above", lines(x.Log(math.MaxInt)), []string{})
}

// 12.5: a clone and the store go on apart.
func TestClone(t *testing.T) {
	x := opened(t, sample())
	x.Put(podOf(api.Pod{Name: "r"}))
	x.Put(podOf(api.Pod{Name: "s"})) // so that the log's list has room behind it
	x.Put(podOf(api.Pod{Name: "t"}))
	y := x.Clone()
	if y == x || y == nil {
		t.Fatal("no clone")
	}
	was := look(x)
	same(t, "a clone", look(y), was)
	walk := func(x *store.Store, pod, node string) []any {
		a, e := x.Bind(asSeen(x, pod, node))
		b, f := x.Put(nodeOf(inZone2(node)))
		c, g := x.Delete(api.KNode, "n")
		d, h := x.Delete(api.KClaim, "cx")
		return []any{a, int(e), b, int(f), c, int(g), d, int(h)}
	}
	same(t, "the clone goes on", walk(y, "r", "m"), []any{4, 0, 5, 0, 8, 0, 10, 0})
	same(t, "the store stays", look(x), was)
	there := look(y)
	same(t, "the store goes on", walk(x, "q", "o"), []any{4, 0, 5, 0, 8, 0, 10, 0})
	same(t, "the clone stays", look(y), there)
	same(t, "the store's log", lines(x.Log(3)), []string{"4 ~ pod q @o", "5 ~ node o", "6 - pod a @n", "7 - pod b @n", "8 - node n", "9 ~ volume vx", "10 - claim cx =vx"})
	same(t, "the clone's log", lines(y.Log(3)), []string{"4 ~ pod r @m", "5 ~ node m", "6 - pod a @n", "7 - pod b @n", "8 - node n", "9 ~ volume vx", "10 - claim cx =vx"})
	z := y.Clone().Clone()
	same(t, "a clone of a clone", look(z), there)
	same(t, "a clone of a new store", look(opened(t, sample()).Clone()), look(opened(t, sample())))
}

func inZone2(name string) api.Node { return node(name, "2") }

// 12.5: a clone and the store go on by turns, however long the log is.
func TestCloneByTurns(t *testing.T) {
	for n := range 20 {
		x := opened(t, api.State{})
		for k := range n {
			x.Put(bare(api.KPod, fmt.Sprint("a", k)))
		}
		y := x.Clone()
		x.Put(bare(api.KNode, "x"))
		y.Put(bare(api.KClass, "y"))
		z := x.Clone()
		x.Put(bare(api.KNode, "z"))
		z.Put(bare(api.KNode, "u"))
		same(t, "the store's log", lines(x.Log(n)), []string{fmt.Sprint(n+1, " + node x"), fmt.Sprint(n+2, " + node z")})
		same(t, "the clone's log", lines(y.Log(n)), []string{fmt.Sprint(n+1, " + class y")})
		same(t, "the other clone's log", lines(z.Log(n)), []string{fmt.Sprint(n+1, " + node x"), fmt.Sprint(n+2, " + node u")})
	}
}
