package cache_test

import (
	"fmt"
	"math"
	"testing"

	"stevedore/api"
	"stevedore/cache"
)

// Rule 2: a cache that no call made answers ErrNil and zero values, at all arguments, and stays such a one.
func TestNoCache(t *testing.T) {
	var none *cache.Cache
	for _, c := range []*cache.Cache{none, {}, new(cache.Cache)} {
		is := func(what string, e api.Errno) {
			t.Helper()
			same(t, what, int(e), int(api.ErrNil))
		}
		for range 2 {
			for _, kind := range append(allKinds(), noKinds()...) {
				for _, name := range []string{"p", ""} {
					is("Tell", c.Tell(change(1, api.Added, bare(kind, name))))
					is("Tell of an Op that there is not", c.Tell(change(1, 9, bare(kind, name))))
					is("List", c.List(kind, stateOf(bare(kind, name)), items(name, 1), items(name, 1)))
					same(t, "Seen", c.Seen(kind, name), 0)
				}
			}
			for _, name := range []string{"p", ""} {
				is("Assume", c.Assume(name, "n", nil))
				is("Forget", c.Forget(name))
				same(t, "Sight", c.Sight(name), 0)
				for _, now := range []int{0, 5, -1, lastNow + 1} {
					is("Arm", c.Arm(name, now))
					l, e := c.Expire(now)
					same(t, "Expire", []any{len(l), int(e)}, []any{0, int(api.ErrNil)})
				}
			}
			same(t, "Belief", c.Belief(), api.State{})
			same(t, "Told", c.Told(), api.State{})
			same(t, "Assumed", len(c.Assumed()), 0)
			if c.Clone() != nil {
				t.Error("Clone of no cache is one")
			}
		}
	}
}

// A cache that was told nothing.
func TestNew(t *testing.T) {
	c := cache.New()
	same(t, "Belief and Told", []api.State{c.Belief(), c.Told()}, []api.State{{}, {}})
	assumedIs(t, "New", c)
	expireIs(t, "New", c, 5)
	for _, name := range someNames() {
		for _, kind := range append(allKinds(), noKinds()...) {
			same(t, "Seen", c.Seen(kind, name), 0)
		}
		same(t, "Sight", c.Sight(name), 0)
	}
	c.Tell(change(1, api.Added, bare(api.KNode, "n")))
	same(t, "another one", look(cache.New()), look(cache.New().Clone()))
	same(t, "another one", cache.New().Told(), api.State{})
}

// The chapter's example.
func TestExample(t *testing.T) {
	c := cache.New()
	tell(t, c, 1, api.Added, bare(api.KNode, "n"))
	tell(t, c, 2, api.Added, on("p", ""))
	assume(t, c, "p", "n")
	same(t, "Belief", where(c.Belief()), []string{"p@n"})
	same(t, "Told", where(c.Told()), []string{"p@"})
	tell(t, c, 3, api.Changed, on("p", "n"))
	assumedIs(t, "told to be bound", c)
	same(t, "Belief", where(c.Belief()), []string{"p@n"})
}

// 15.1: each kind, added, changed and removed; its version is the change's, and nothing of other kinds or names is touched.
func TestTell(t *testing.T) {
	for _, kind := range allKinds() {
		c := cache.New()
		var others []api.Object
		for _, k := range allKinds() {
			others = append(others, full(k, "o", 1))
			tell(t, c, 10*k, api.Added, full(k, "o", 1))
		}
		is := func(what string, version int, l ...api.Object) {
			t.Helper()
			want := stateOf(append(others, l...)...)
			same(t, fmt.Sprint("kind ", kind, ", ", what, ": Told"), c.Told(), want)
			same(t, fmt.Sprint("kind ", kind, ", ", what, ": Belief"), c.Belief(), want)
			for _, k := range allKinds() {
				seen := []int{10 * k, 0}
				if k == kind {
					seen[1] = version
				}
				same(t, fmt.Sprint("kind ", k, ", ", what, ": Seen"), []int{c.Seen(k, "o"), c.Seen(k, "x")}, seen)
			}
		}
		is("ahead", 0)
		tell(t, c, 71, api.Added, full(kind, "x", 2))
		is("added", 71, full(kind, "x", 2))
		tell(t, c, 72, api.Changed, full(kind, "x", 3))
		is("changed", 72, full(kind, "x", 3))
		tell(t, c, 73, api.Changed, bare(kind, "x"))
		is("changed to a name alone", 73, bare(kind, "x"))
		tell(t, c, 74, api.Removed, full(kind, "x", 2))
		is("removed", 0)
		tell(t, c, 75, api.Added, full(kind, "x", 4))
		is("added again", 75, full(kind, "x", 4))
		tell(t, c, 76, api.Removed, bare(kind, "x"))
		is("removed by its name", 0)
	}
}

// 15.1: of what is not known a change is taken as an addition, and the other way round; a removal of what is not known is none.
func TestTellOutOfOrder(t *testing.T) {
	for _, kind := range allKinds() {
		c := cache.New()
		tell(t, c, 3, api.Changed, full(kind, "x", 1))
		same(t, "changed first", []any{c.Told(), c.Seen(kind, "x")}, []any{stateOf(full(kind, "x", 1)), 3})
		tell(t, c, 4, api.Added, full(kind, "x", 2))
		same(t, "added behind it", []any{c.Told(), c.Seen(kind, "x")}, []any{stateOf(full(kind, "x", 2)), 4})
		for _, name := range []string{"y", "X", "x\x00", "xx"} {
			tell(t, c, 5, api.Removed, full(kind, name, 2))
			same(t, "removed what is not known", []any{c.Told(), c.Seen(kind, "x"), c.Seen(kind, name)}, []any{stateOf(full(kind, "x", 2)), 4, 0})
		}
		tell(t, c, 6, api.Removed, bare(kind, "x"))
		tell(t, c, 7, api.Removed, bare(kind, "x"))
		same(t, "removed twice", []any{c.Told(), c.Seen(kind, "x")}, []any{api.State{}, 0})
	}
}

// 15.1: a change of what is known as it was is one: its version is told. Versions are told as they come, also if they fall.
func TestTellVersions(t *testing.T) {
	for _, kind := range allKinds() {
		c := cache.New()
		for _, version := range []int{5, 6, 6, 2, 0, -1, math.MaxInt, math.MinInt, 1} {
			for _, op := range []int{api.Changed, api.Added} {
				tell(t, c, version, op, full(kind, "x", 1))
				same(t, "as it was", []any{c.Told(), c.Seen(kind, "x")}, []any{stateOf(full(kind, "x", 1)), version})
			}
		}
	}
}

// 15.1: an object of a kind that there is not, or without a name, and an Op that there is not: ErrArg, and nothing is changed.
func TestTellRefused(t *testing.T) {
	c := sample(t)
	assume(t, c, "p", "n", "c", "v")
	arm(t, c, "p", 3)
	refused := func(what string, x api.Change) {
		t.Helper()
		fails(t, what, c, func() api.Errno { return c.Tell(x) }, api.ErrArg)
	}
	all := api.Object{Pod: api.Pod{Name: "p", Node: "n"}, Node: api.Node{Name: "n"}, Volume: api.Volume{Name: "v"}, Claim: api.Claim{Name: "c"}, Class: api.Class{Name: "k"}, Budget: api.Budget{Name: "g"}}
	for _, kind := range noKinds() {
		all.Kind = kind
		for _, op := range []int{api.Added, api.Changed, api.Removed, 0, 4} {
			refused(fmt.Sprint("kind ", kind, ", Op ", op), change(20, op, all))
		}
	}
	for _, kind := range allKinds() {
		all.Kind = kind
		for _, op := range noOps() {
			refused(fmt.Sprint("kind ", kind, ", Op ", op), change(20, op, all))
		}
		// The names of other kinds' members are none of its own.
		nameless := all
		named(&nameless, "")
		for _, op := range append(noOps(), api.Added, api.Changed, api.Removed) {
			refused(fmt.Sprint("without a name, kind ", kind, ", Op ", op), change(20, op, nameless))
			refused(fmt.Sprint("without anything, kind ", kind, ", Op ", op), change(20, op, api.Object{Kind: kind}))
		}
	}
	refused("nothing at all", api.Change{})
}

// 15.1: what an object has in members of other kinds is not told of them.
func TestTellOneMember(t *testing.T) {
	all := api.Object{
		Pod: full(api.KPod, "x", 1).Pod, Node: full(api.KNode, "x", 1).Node, Volume: full(api.KVolume, "x", 1).Volume,
		Claim: full(api.KClaim, "x", 1).Claim, Class: full(api.KClass, "x", 1).Class, Budget: full(api.KBudget, "x", 1).Budget,
	}
	for _, kind := range allKinds() {
		c := cache.New()
		all.Kind = kind
		tell(t, c, 4, api.Added, all)
		same(t, fmt.Sprint("kind ", kind), c.Told(), stateOf(full(kind, "x", 1)))
		for _, k := range allKinds() {
			want := 0
			if k == kind {
				want = 4
			}
			same(t, fmt.Sprint("Seen of ", k), c.Seen(k, "x"), want)
		}
		tell(t, c, 5, api.Removed, all)
		same(t, fmt.Sprint("kind ", kind, ", removed"), c.Told(), api.State{})
	}
}

// 15.1: names are any texts; objects lie rising by them.
func TestTellNames(t *testing.T) {
	for _, kind := range allKinds() {
		c := cache.New()
		for _, name := range []string{"b", "\xff", "a", "Z", "a\x00", " ", "10", "9", "aa"} {
			tell(t, c, 1, api.Added, bare(kind, name))
		}
		var want []api.Object
		for _, name := range []string{" ", "10", "9", "Z", "a", "a\x00", "aa", "b", "\xff"} {
			want = append(want, bare(kind, name))
		}
		same(t, "Told", c.Told(), stateOf(want...))
		same(t, "Belief", c.Belief(), stateOf(want...))
	}
}

// 15.1: a pod that is told to be bound, there or elsewhere, or removed, is assumed no more; one that is told and waits is so still.
func TestTellAssumed(t *testing.T) {
	for _, x := range []struct {
		what    string
		op      int
		pod     api.Pod
		assumed bool
		belief  string
	}{
		{"bound there", api.Changed, api.Pod{Name: "p", Node: "n"}, false, "p@n"},
		{"bound there, added", api.Added, api.Pod{Name: "p", Node: "n"}, false, "p@n"},
		{"bound elsewhere", api.Changed, api.Pod{Name: "p", Node: "m"}, false, "p@m"},
		{"bound to what is not known", api.Changed, api.Pod{Name: "p", Node: "not-there"}, false, "p@not-there"},
		{"bound, with a hope", api.Changed, api.Pod{Name: "p", Node: "m", Hope: "n"}, false, "p@m?n"},
		{"as it was", api.Changed, api.Pod{Name: "p"}, true, "p@n"},
		{"as it was, added", api.Added, api.Pod{Name: "p"}, true, "p@n"},
		{"another priority", api.Changed, api.Pod{Name: "p", Priority: 7}, true, "p@n"},
		{"a hope there", api.Changed, api.Pod{Name: "p", Hope: "n"}, true, "p@n"},
		{"a hope elsewhere", api.Changed, api.Pod{Name: "p", Hope: "m"}, true, "p@n"},
		{"removed", api.Removed, api.Pod{Name: "p"}, false, ""},
		{"removed, told as bound", api.Removed, api.Pod{Name: "p", Node: "n"}, false, ""},
	} {
		for _, armed := range []bool{false, true} {
			c := sample(t)
			assume(t, c, "q", "m")
			assume(t, c, "p", "n", "c", "v")
			assume(t, c, "r", "n")
			if armed {
				arm(t, c, "p", 2)
				arm(t, c, "r", 3)
			}
			tell(t, c, 20, x.op, podOf(x.pod))
			who, at := []string{"q", "r"}, []string{"a@m", "q@m", "r@n"}
			if x.assumed {
				who = []string{"p", "q", "r"}
			}
			if x.belief != "" {
				at = []string{"a@m", x.belief, "q@m", "r@n"}
			}
			assumedIs(t, x.what, c, who...)
			same(t, x.what+": Belief", where(c.Belief()), at)
			same(t, x.what+": the claim", c.Belief().Claims[0].Volume == "v", x.assumed)
			late := look(c).over
			want := map[int][]string{}
			if armed {
				want[19] = []string{"r"}
			}
			if armed && x.assumed {
				want[18] = []string{"p"}
			}
			same(t, x.what+": who expires", late, want)
		}
	}
}

// 15.1: one that is told to be bound goes on so, when it is told to wait again: what was assumed is gone.
func TestTellAssumedNoMore(t *testing.T) {
	for _, op := range []int{api.Changed, api.Removed} {
		c := sample(t)
		assume(t, c, "p", "n", "c", "v")
		arm(t, c, "p", 2)
		tell(t, c, 20, op, on("p", "n"))
		tell(t, c, 21, api.Changed, on("p", ""))
		assumedIs(t, "told to wait again", c)
		same(t, "Belief", c.Belief(), c.Told())
		assume(t, c, "p", "m")
		expireIs(t, "what is assumed anew is not armed", c, lastNow)
		same(t, "what is assumed anew has its own picks", whose(c.Belief()), whose(c.Told()))
	}
}

// 15.1: changes of other pods and other kinds leave who is assumed, even if its node or its volume goes.
func TestTellOthersLeaveAssumed(t *testing.T) {
	c := sample(t)
	assume(t, c, "p", "n", "c", "v")
	arm(t, c, "p", 4)
	for k, x := range []api.Change{
		change(1, api.Removed, bare(api.KNode, "n")),
		change(2, api.Changed, bare(api.KNode, "p")),
		change(3, api.Removed, bare(api.KNode, "p")),
		change(4, api.Changed, on("q", "n")),
		change(5, api.Removed, on("a", "m")),
		change(6, api.Removed, bare(api.KVolume, "v")),
		change(7, api.Removed, bare(api.KClaim, "c")),
		change(8, api.Changed, volumeOf(api.Volume{Name: "p", Claim: "c"})),
		change(9, api.Changed, claimOf(api.Claim{Name: "p", Volume: "v"})),
		change(10, api.Removed, bare(api.KClass, "p")),
		change(11, api.Removed, bare(api.KBudget, "p")),
	} {
		same(t, "Tell", int(c.Tell(x)), 0)
		assumedIs(t, fmt.Sprint("change ", k), c, "p")
	}
	same(t, "Belief", where(c.Belief()), []string{"p@n", "q@n", "r@?m"})
	same(t, "who expires", look(c).over, map[int][]string{20: {"p"}})
}
