package cache_test

import (
	"fmt"
	"testing"

	"stevedore/api"
	"stevedore/cache"
)

// sightsAre asks for the sights of m and n.
func sightsAre(t *testing.T, what string, c *cache.Cache, m, n int) {
	t.Helper()
	same(t, what+": sights of m and n", []int{c.Sight("m"), c.Sight("n")}, []int{m, n})
}

// both is a cache that was told nodes m and n: each has a sight of 1.
func both(t *testing.T) *cache.Cache {
	t.Helper()
	c := cache.New()
	tell(t, c, 1, api.Added, bare(api.KNode, "m"))
	tell(t, c, 2, api.Added, bare(api.KNode, "n"))
	return c
}

// 15.1, 15.3: a node's own changes count, as it was or not; of one that is not known any more 0 is told, and when it comes back all are.
func TestSightOfNode(t *testing.T) {
	c := both(t)
	sightsAre(t, "added", c, 1, 1)
	tell(t, c, 3, api.Changed, full(api.KNode, "n", 1))
	sightsAre(t, "changed", c, 1, 2)
	tell(t, c, 4, api.Changed, full(api.KNode, "n", 1))
	tell(t, c, 5, api.Added, full(api.KNode, "n", 1))
	sightsAre(t, "as it was", c, 1, 4)
	tell(t, c, 6, api.Removed, full(api.KNode, "n", 1))
	sightsAre(t, "removed", c, 1, 0)
	tell(t, c, 7, api.Removed, full(api.KNode, "n", 1))
	sightsAre(t, "removed again", c, 1, 0)
	tell(t, c, 8, api.Added, bare(api.KNode, "n"))
	sightsAre(t, "back", c, 1, 7)
	tell(t, c, 9, api.Removed, bare(api.KNode, "o"))
	same(t, "never known", c.Sight("o"), 0)
	tell(t, c, 10, api.Added, bare(api.KNode, "o"))
	same(t, "known behind a removal", c.Sight("o"), 2)
	sightsAre(t, "others", c, 1, 7)
}

// 15.1: a pod's changes count for the node where it stood as it was known, and for the one where it stands then: once, if that is the same.
func TestSightOfPods(t *testing.T) {
	for _, x := range []struct {
		what     string
		was      string // where it is known to stand; "-": it is not known
		op       int
		told     string // where it is told to stand
		m, n     int
		seen     int
		standing string
	}{
		{"new, waits", "-", api.Added, "", 0, 0, 9, "p@"},
		{"new, bound", "-", api.Added, "n", 0, 1, 9, "p@n"},
		{"changed, not known, bound", "-", api.Changed, "n", 0, 1, 9, "p@n"},
		{"waits, goes on waiting", "", api.Changed, "", 0, 0, 9, "p@"},
		{"waits, is bound", "", api.Changed, "n", 0, 1, 9, "p@n"},
		{"waits, is bound by an addition", "", api.Added, "n", 0, 1, 9, "p@n"},
		{"bound, stays", "n", api.Changed, "n", 0, 1, 9, "p@n"},
		{"bound, stays, told as added", "n", api.Added, "n", 0, 1, 9, "p@n"},
		{"bound, moves", "m", api.Changed, "n", 1, 1, 9, "p@n"},
		{"bound, moves back", "n", api.Changed, "m", 1, 1, 9, "p@m"},
		{"bound, waits again", "n", api.Changed, "", 0, 1, 9, "p@"},
		{"bound, removed as it was", "n", api.Removed, "n", 0, 1, 0, ""},
		{"bound, removed, told elsewhere", "n", api.Removed, "m", 0, 1, 0, ""},
		{"bound, removed, told nowhere", "n", api.Removed, "", 0, 1, 0, ""},
		{"waits, removed", "", api.Removed, "", 0, 0, 0, ""},
		{"waits, removed, told as bound", "", api.Removed, "n", 0, 0, 0, ""},
		{"not known, removed", "-", api.Removed, "", 0, 0, 0, ""},
		{"not known, removed, told as bound", "-", api.Removed, "n", 0, 0, 0, ""},
	} {
		c := both(t)
		if x.was != "-" {
			tell(t, c, 5, api.Added, on("p", x.was))
		}
		m, n := c.Sight("m"), c.Sight("n")
		tell(t, c, 9, x.op, on("p", x.told))
		sightsAre(t, x.what, c, m+x.m, n+x.n)
		same(t, x.what+": Seen", c.Seen(api.KPod, "p"), x.seen)
		if x.standing != "" {
			same(t, x.what+": Told", where(c.Told()), []string{x.standing})
		}
	}
}

// 15.1: many pods of one node count one by one.
func TestSightOfManyPods(t *testing.T) {
	c := both(t)
	for k := range 10 {
		tell(t, c, 3+k, api.Added, on(fmt.Sprint("p", k), "n"))
	}
	sightsAre(t, "ten", c, 1, 11)
	for k := range 5 {
		tell(t, c, 20+k, api.Removed, on(fmt.Sprint("p", k), "n"))
	}
	sightsAre(t, "five go", c, 1, 16)
	for k := range 3 {
		tell(t, c, 30+k, api.Changed, on(fmt.Sprint("p", 7+k), "m"))
	}
	sightsAre(t, "three move", c, 4, 19)
}

// 15.1, 15.3: pods of a node that is not known, yet or any more, count; it is told when the node is known.
func TestSightOfUnknownNode(t *testing.T) {
	c := cache.New()
	tell(t, c, 1, api.Added, on("p", "n"))
	tell(t, c, 2, api.Changed, on("p", "n"))
	same(t, "not known yet", c.Sight("n"), 0)
	tell(t, c, 3, api.Added, bare(api.KNode, "n"))
	same(t, "known", c.Sight("n"), 3)
	tell(t, c, 4, api.Removed, bare(api.KNode, "n"))
	same(t, "not known any more", c.Sight("n"), 0)
	tell(t, c, 5, api.Removed, on("p", "n"))
	tell(t, c, 6, api.Added, on("q", "n"))
	same(t, "not known any more", c.Sight("n"), 0)
	tell(t, c, 7, api.Changed, bare(api.KNode, "n"))
	same(t, "back", c.Sight("n"), 7)
}

// 15.1: what is assumed is not told: it counts for no node, neither when it comes nor when it goes.
func TestSightOfAssumed(t *testing.T) {
	c := both(t)
	tell(t, c, 3, api.Added, on("p", ""))
	assume(t, c, "p", "n")
	sightsAre(t, "assumed", c, 1, 1)
	tell(t, c, 4, api.Changed, podOf(api.Pod{Name: "p", Priority: 3}))
	sightsAre(t, "assumed, told to wait", c, 1, 1)
	forget(t, c, "p")
	assume(t, c, "p", "m")
	arm(t, c, "p", 0)
	c.Expire(16)
	sightsAre(t, "forgotten, assumed, expired", c, 1, 1)
	assume(t, c, "p", "m")
	tell(t, c, 5, api.Changed, on("p", "n"))
	sightsAre(t, "bound elsewhere", c, 1, 2)
	tell(t, c, 6, api.Added, on("q", ""))
	assume(t, c, "q", "m")
	tell(t, c, 7, api.Removed, on("q", ""))
	sightsAre(t, "an assumed one removed", c, 1, 2)
	tell(t, c, 8, api.Added, on("q", ""))
	assume(t, c, "q", "m")
	tell(t, c, 9, api.Changed, on("q", "m"))
	sightsAre(t, "bound there", c, 2, 2)
}

// 15.1: what has a node's name, but is none, counts for no node; nor does where a pod hopes to come.
func TestSightOfOthers(t *testing.T) {
	for _, kind := range allKinds() {
		c := both(t)
		if kind != api.KNode {
			tell(t, c, 3, api.Added, bare(kind, "n"))
			tell(t, c, 4, api.Changed, bare(kind, "n"))
			tell(t, c, 5, api.Removed, bare(kind, "n"))
		}
		sightsAre(t, fmt.Sprint("kind ", kind), c, 1, 1)
	}
	c := both(t)
	tell(t, c, 3, api.Added, podOf(api.Pod{Name: "p", Hope: "n"}))
	tell(t, c, 4, api.Added, claimOf(api.Claim{Name: "c", Volume: "n"}))
	tell(t, c, 5, api.Added, volumeOf(api.Volume{Name: "v", Claim: "n"}))
	sightsAre(t, "hopes, claims, volumes", c, 1, 1)
	o := on("p", "n")
	o.Node.Name = "m"
	tell(t, c, 6, api.Changed, o)
	sightsAre(t, "a pod with a node in it", c, 1, 2)
	o = bare(api.KNode, "m")
	o.Pod = api.Pod{Name: "p", Node: "n"}
	tell(t, c, 7, api.Changed, o)
	sightsAre(t, "a node with a pod in it", c, 2, 2)
	for _, name := range []string{"", "p", "c", "v", "not-there", "n\x00"} {
		same(t, fmt.Sprintf("Sight(%q)", name), c.Sight(name), 0)
	}
}
