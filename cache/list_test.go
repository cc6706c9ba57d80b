package cache_test

import (
	"fmt"
	"math"
	"testing"

	"stevedore/api"
	"stevedore/cache"
)

// 15.1: all objects of a kind are those that are listed, by their names, each with its version; what is known of other kinds stays.
func TestList(t *testing.T) {
	for _, kind := range allKinds() {
		c := cache.New()
		var others []api.Object
		for _, k := range allKinds() {
			tell(t, c, 10*k, api.Added, full(k, "o", 1))
			tell(t, c, 10*k+1, api.Added, full(k, "x", 1))
			if k != kind {
				others = append(others, full(k, "o", 1), full(k, "x", 1))
			}
		}
		var s api.State
		for _, k := range allKinds() { // what stands there of other kinds does not count
			s = merged(s, stateOf(full(k, "z", 2), full(k, "x", 2), full(k, "a", 3)))
		}
		list(t, c, kind, s, items("a", 5, "x", 3, "o", 4, "z", 900), nil)
		want := stateOf(append(others, full(kind, "a", 3), full(kind, "x", 2), full(kind, "z", 2))...)
		same(t, fmt.Sprint("kind ", kind, ": Told"), c.Told(), want)
		same(t, fmt.Sprint("kind ", kind, ": Belief"), c.Belief(), want)
		for _, k := range allKinds() {
			seen := []int{0, 10 * k, 10*k + 1, 0}
			if k == kind {
				seen = []int{5, 0, 3, 900}
			}
			same(t, fmt.Sprint("kind ", k, ": Seen"), []int{c.Seen(k, "a"), c.Seen(k, "o"), c.Seen(k, "x"), c.Seen(k, "z")}, seen)
		}
		tell(t, c, 77, api.Changed, full(kind, "x", 4))
		tell(t, c, 78, api.Removed, full(kind, "a", 3))
		same(t, "told behind it", c.Told(), stateOf(append(others, full(kind, "x", 4), full(kind, "z", 2))...))
		same(t, "told behind it", []int{c.Seen(kind, "a"), c.Seen(kind, "x"), c.Seen(kind, "z")}, []int{0, 77, 900})
		for _, none := range []api.State{{}, {Pods: []api.Pod{}, Nodes: []api.Node{}, Volumes: []api.Volume{}, Claims: []api.Claim{}, Classes: []api.Class{}, Budgets: []api.Budget{}}, stateOf(others...)} {
			d := c.Clone()
			list(t, d, kind, none, items("x", 1), nil)
			same(t, "nothing is listed", d.Told(), stateOf(others...))
			same(t, "nothing is listed", []int{d.Seen(kind, "x"), d.Seen(kind, "z")}, []int{0, 0})
		}
	}
}

// merged has what both have.
func merged(a, b api.State) api.State {
	return api.State{
		Pods: append(a.Pods, b.Pods...), Nodes: append(a.Nodes, b.Nodes...), Volumes: append(a.Volumes, b.Volumes...),
		Claims: append(a.Claims, b.Claims...), Classes: append(a.Classes, b.Classes...), Budgets: append(a.Budgets, b.Budgets...),
	}
}

// 15.1: a kind that there is not: ErrArg, and nothing is changed.
func TestListRefused(t *testing.T) {
	c := sample(t)
	assume(t, c, "p", "n", "c", "v")
	arm(t, c, "p", 5)
	var s api.State
	for _, kind := range allKinds() {
		s = merged(s, stateOf(full(kind, "x", 1)))
	}
	for _, kind := range noKinds() {
		for _, what := range []api.State{s, {}, stateOf(on("p", "n"))} {
			fails(t, fmt.Sprint("List of ", kind), c, func() api.Errno { return c.List(kind, what, items("x", 1, "n", 2), items("n", 8)) }, api.ErrArg)
		}
	}
}

// 15.1: of a name that stands twice the last object counts; those without a name are left out.
func TestListTwice(t *testing.T) {
	for _, kind := range allKinds() {
		c := cache.New()
		s := stateOf(full(kind, "x", 1), full(kind, "", 2), full(kind, "a", 3), full(kind, "x", 4), full(kind, "b", 5), full(kind, "x", 6), full(kind, "", 7), full(kind, "a", 8))
		list(t, c, kind, s, items("x", 1, "", 2, "a", 3, "x", 4), nil)
		same(t, fmt.Sprint("kind ", kind), c.Told(), stateOf(full(kind, "a", 8), full(kind, "b", 5), full(kind, "x", 6)))
		same(t, "Seen", []int{c.Seen(kind, "a"), c.Seen(kind, "b"), c.Seen(kind, "x"), c.Seen(kind, "")}, []int{3, 0, 1, 0})
		list(t, c, kind, stateOf(full(kind, "", 1)), items("", 2), nil)
		same(t, "none has a name", []any{c.Told(), c.Seen(kind, "")}, []any{api.State{}, 0})
	}
}

// 15.1: the first item of a name tells the version; 0, if none does; one of a name that is not listed tells nothing, then or later.
func TestListVersions(t *testing.T) {
	for _, kind := range allKinds() {
		for _, x := range []struct {
			what     string
			versions []api.Item
			want     []int // of a, b and x
		}{
			{"nil", nil, []int{0, 0, 0}},
			{"empty", []api.Item{}, []int{0, 0, 0}},
			{"all", items("a", 1, "b", 2, "x", 3), []int{1, 2, 3}},
			{"in another order", items("x", 3, "b", 2, "a", 1), []int{1, 2, 3}},
			{"one left out", items("a", 1, "x", 3), []int{1, 0, 3}},
			{"one twice", items("b", 5, "a", 1, "b", 7, "x", 3), []int{1, 5, 3}},
			{"one twice, 0 first", items("b", 0, "a", 1, "b", 7, "x", 3), []int{1, 0, 3}},
			{"one that is not there", items("not-there", 9, "b", 2), []int{0, 2, 0}},
			{"one without a name", items("", 9, "b", 2), []int{0, 2, 0}},
			{"below 0, and very great", items("a", -1, "b", math.MinInt, "x", math.MaxInt), []int{-1, math.MinInt, math.MaxInt}},
			{"ranks do not count", []api.Item{{Key: "a", Rank: 5}, {Key: "b", Rank: 6, Seq: 2}}, []int{0, 2, 0}},
		} {
			c := cache.New()
			tell(t, c, 50, api.Added, bare(kind, "b"))
			tell(t, c, 51, api.Added, bare(kind, "gone"))
			list(t, c, kind, stateOf(bare(kind, "a"), bare(kind, "b"), bare(kind, "x")), x.versions, nil)
			same(t, fmt.Sprint("kind ", kind, ", ", x.what), []int{c.Seen(kind, "a"), c.Seen(kind, "b"), c.Seen(kind, "x")}, x.want)
			same(t, fmt.Sprint("kind ", kind, ", ", x.what), []int{c.Seen(kind, "not-there"), c.Seen(kind, "gone"), c.Seen(kind, "")}, []int{0, 0, 0})
			tell(t, c, 60, api.Added, bare(kind, "not-there"))
			same(t, "told later", c.Seen(kind, "not-there"), 60)
		}
	}
}

// 15.1: of nodes and of pods the first item of a name tells how many changes of that kind it saw; 0, if none does. What it saw of the other kind stays.
func TestListSights(t *testing.T) {
	for _, x := range []struct {
		what   string
		sights []api.Item
		m, n   int
	}{
		{"nil", nil, 0, 0},
		{"empty", []api.Item{}, 0, 0},
		{"both", items("m", 20, "n", 30), 20, 30},
		{"in another order", items("n", 30, "m", 20), 20, 30},
		{"one left out", items("n", 30), 0, 30},
		{"one twice", items("n", 30, "m", 20, "n", 40), 20, 30},
		{"one twice, 0 first", items("n", 0, "m", 20, "n", 40), 20, 0},
		{"one without a name", items("", 9, "m", 20), 20, 0},
		{"others, too", items("o", 9, "m", 20, "p", 7), 20, 0},
		{"below 0", items("m", -2, "n", -1), -2, -1},
		{"ranks do not count", []api.Item{{Key: "m", Rank: 7}, {Key: "n", Rank: 8, Seq: 1}}, 0, 1},
	} {
		// m saw 1 change of its own and 2 of pods, n saw 3 and 4.
		seen := func() *cache.Cache {
			c := both(t)
			tell(t, c, 3, api.Changed, bare(api.KNode, "n"))
			tell(t, c, 4, api.Changed, bare(api.KNode, "n"))
			for k := range 2 {
				tell(t, c, 5+k, api.Added, on("p", "m"))
			}
			for k := range 4 {
				tell(t, c, 7+k, api.Added, on("q", "n"))
			}
			sightsAre(t, "ahead", c, 3, 7)
			return c
		}
		nodes := stateOf(bare(api.KNode, "m"), bare(api.KNode, "n"))
		c := seen()
		list(t, c, api.KNode, nodes, nil, x.sights)
		sightsAre(t, x.what+", of nodes", c, x.m+2, x.n+4)
		list(t, c, api.KNode, nodes, nil, items("m", 1, "n", 3))
		sightsAre(t, x.what+", of nodes, listed again", c, 3, 7)

		c = seen()
		list(t, c, api.KPod, api.State{}, nil, x.sights)
		sightsAre(t, x.what+", of pods", c, x.m+1, x.n+3)
		list(t, c, api.KPod, api.State{}, nil, items("m", 2, "n", 4))
		sightsAre(t, x.what+", of pods, listed again", c, 3, 7)

		for _, kind := range []int{api.KVolume, api.KClaim, api.KClass, api.KBudget} {
			list(t, c, kind, nodes, x.sights, x.sights)
			sightsAre(t, fmt.Sprint(x.what, ", of kind ", kind), c, 3, 7)
		}
	}
}

// 15.1, 15.3: listed sights go on by what is told behind them; those of nodes that are not there are told when they come.
func TestListSightsGoOn(t *testing.T) {
	c := cache.New()
	list(t, c, api.KNode, stateOf(bare(api.KNode, "n")), nil, items("n", 10, "m", 5))
	list(t, c, api.KPod, stateOf(on("p", "n")), nil, items("n", 3, "m", 100))
	sightsAre(t, "listed", c, 0, 13)
	tell(t, c, 1, api.Changed, bare(api.KNode, "n"))
	tell(t, c, 2, api.Changed, on("p", "m"))
	sightsAre(t, "told", c, 0, 15)
	tell(t, c, 3, api.Added, bare(api.KNode, "m"))
	sightsAre(t, "it comes", c, 107, 15)
	list(t, c, api.KNode, stateOf(bare(api.KNode, "m")), nil, items("n", 20, "m", 7))
	sightsAre(t, "n goes", c, 108, 0)
	tell(t, c, 4, api.Added, bare(api.KNode, "n"))
	sightsAre(t, "n is back", c, 108, 25)
	list(t, c, api.KPod, stateOf(on("p", "n"), on("q", "n")), nil, nil)
	sightsAre(t, "that pods stand there is no change", c, 7, 21)
	tell(t, c, 5, api.Removed, on("p", "n"))
	sightsAre(t, "where it stood as it was listed", c, 7, 22)
	list(t, c, api.KPod, stateOf(on("q", "m"), on("q", "n")), nil, nil)
	tell(t, c, 6, api.Removed, on("q", "m"))
	sightsAre(t, "where the last one of its name stood", c, 7, 22)
}

// 15.1: a pod that is bound in a list of pods, or not in it, is assumed no more; one that waits in it is so still.
func TestListAssumed(t *testing.T) {
	for _, x := range []struct {
		what    string
		l       []api.Object
		assumed bool
		belief  []string
	}{
		{"bound there", []api.Object{on("p", "n")}, false, []string{"p@n", "q@m"}},
		{"bound elsewhere", []api.Object{on("p", "m")}, false, []string{"p@m", "q@m"}},
		{"waits", []api.Object{on("p", "")}, true, []string{"p@n", "q@m"}},
		{"waits, hopes", []api.Object{podOf(api.Pod{Name: "p", Hope: "m"})}, true, []string{"p@n", "q@m"}},
		{"not there", nil, false, []string{"q@m"}},
		{"twice, the last one waits", []api.Object{on("p", "m"), on("p", "")}, true, []string{"p@n", "q@m"}},
		{"twice, the last one is bound", []api.Object{on("p", ""), on("p", "m")}, false, []string{"p@m", "q@m"}},
		{"another name", []api.Object{on("pp", "")}, false, []string{"pp@", "q@m"}},
	} {
		for _, armed := range []bool{false, true} {
			c := sample(t)
			assume(t, c, "p", "n", "c", "v")
			assume(t, c, "q", "m", "d", "w")
			if armed {
				arm(t, c, "p", 4)
			}
			list(t, c, api.KPod, stateOf(append(x.l, on("q", ""))...), nil, nil)
			who, picks, over := []string{"q"}, []string{"c=", "d=w", "e=x", "v=", "w=d", "x=e"}, map[int][]string{}
			if x.assumed {
				who, picks = []string{"p", "q"}, []string{"c=v", "d=w", "e=x", "v=c", "w=d", "x=e"}
			}
			if x.assumed && armed {
				over[20] = []string{"p"}
			}
			assumedIs(t, x.what, c, who...)
			same(t, x.what+": Belief", where(c.Belief()), x.belief)
			same(t, x.what+": picks", whose(c.Belief()), picks)
			same(t, x.what+": who expires", look(c).over, over)
		}
	}
}

// 15.1: a list of another kind leaves who is assumed, whatever pods stand in its state, and even if the node is not listed.
func TestListOthersLeaveAssumed(t *testing.T) {
	for _, kind := range allKinds()[1:] {
		for _, s := range []api.State{{}, stateOf(on("p", "m")), stateOf(bare(kind, "p"))} {
			c := sample(t)
			assume(t, c, "p", "n", "c", "v")
			arm(t, c, "p", 4)
			was := c.Told()
			list(t, c, kind, s, nil, nil)
			assumedIs(t, fmt.Sprint("kind ", kind), c, "p")
			same(t, "Told", c.Told().Pods, was.Pods)
			same(t, "Belief", where(c.Belief()), []string{"a@m", "p@n", "q@", "r@?m"})
			same(t, "who expires", look(c).over, map[int][]string{20: {"p"}})
		}
	}
}

// 15.1: what was assumed ahead of a list that ended it does not come back with one that has the pod wait.
func TestListAssumedNoMore(t *testing.T) {
	c := sample(t)
	assume(t, c, "p", "n", "c", "v")
	arm(t, c, "p", 4)
	list(t, c, api.KPod, api.State{}, nil, nil)
	list(t, c, api.KPod, stateOf(on("p", "")), nil, nil)
	assumedIs(t, "listed again", c)
	same(t, "Belief", c.Belief(), c.Told())
	assume(t, c, "p", "m")
	expireIs(t, "assumed anew", c, lastNow)
}
