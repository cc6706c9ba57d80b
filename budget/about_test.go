package budget_test

import (
	"math"
	"math/rand"
	"slices"
	"testing"

	"stevedore/api"
	"stevedore/budget"
)

// 18.1: the chapter's example.
func TestTheExample(t *testing.T) {
	s := with(having(crowd("x", "a", "b", "c")...), least(2, "x"))
	isAbout(t, "the example", s, s.Budgets[0], 1, "a", "b", "c")
	breaks(t, "the example", s, names("a", "b", "c"), "b", "c")
}

// 18.1: pods that are bound and whose labels meet the Reqs, in the state's order; the pods alone tell, not the state's own budgets.
func TestAbout(t *testing.T) {
	s := having(on("c", "x"), on("a", "x"), waiting("d", "x"), on("b", "y"), api.Pod{Name: "e", Node: "n"})
	isAbout(t, "x", s, least(0, "x"), 2, "c", "a")
	isAbout(t, "y", s, least(0, "y"), 1, "b")
	isAbout(t, "nobody", s, least(0, "z"), 0)
	isAbout(t, "nothing is asked", s, api.Budget{}, 4, "c", "a", "b", "e")
	isAbout(t, "an empty list is asked", s, api.Budget{Reqs: []api.Req{}}, 4, "c", "a", "b", "e")
	isAbout(t, "no pods", api.State{}, least(0, "x"), 0)
	isAbout(t, "no pods, nothing asked", api.State{}, api.Budget{}, 0)
	isAbout(t, "all wait", having(waiting("a", "x"), waiting("b", "x")), api.Budget{}, 0)
	other := with(s, api.Budget{Name: "b-x", Least: 9, Reqs: app("y")})
	isAbout(t, "the state has another one of that name", other, least(1, "x"), 1, "c", "a")
}

// 18.1: several things that are asked must all be met; what may not be asked is met by nobody; values that are no numbers are not above.
func TestAboutOfSeveral(t *testing.T) {
	pod := func(name string, pairs ...string) api.Pod {
		return api.Pod{Name: name, Node: "n", Labels: labels(pairs...)}
	}
	s := having(pod("a", "app", "x", "tier", "1"), pod("b", "app", "x", "tier", "9"), pod("c", "app", "y", "tier", "10"), pod("d", "app", "x"), pod("e"))
	above := api.Req{Key: "tier", Op: api.OpAbove, Values: []string{"1"}}
	isAbout(t, "two are asked", s, api.Budget{Reqs: append(app("x"), above)}, 1, "b")
	isAbout(t, "one of them", s, api.Budget{Reqs: []api.Req{above}}, 2, "b", "c")
	isAbout(t, "against each other", s, api.Budget{Reqs: append(app("x"), app("y")...)}, 0)
	isAbout(t, "lacks", s, api.Budget{Reqs: []api.Req{{Key: "tier", Op: api.OpLacks}}}, 2, "d", "e")
	isAbout(t, "not in", s, api.Budget{Reqs: []api.Req{{Key: "app", Op: api.OpNotIn, Values: []string{"x"}}}}, 2, "c", "e")
	for _, wrong := range []api.Req{{}, {Key: "app"}, {Key: "app", Op: 7, Values: []string{"x"}}, {Key: "app", Op: -1}} {
		isAbout(t, "not right", s, api.Budget{Reqs: []api.Req{wrong}}, 0)
		isAbout(t, "not right, with a right one", s, api.Budget{Reqs: append(app("x"), wrong)}, 0)
	}
}

// 18.1: bound is whose Node is not empty, also to a node that is not there; a Hope is none.
func TestAboutTheBound(t *testing.T) {
	far, hoping := on("a", "x"), waiting("b", "x")
	far.Node = "not there"
	s := having(far, hoping, on("c", "x"))
	isAbout(t, "no nodes at all", s, least(1, "x"), 1, "a", "c")
	s.Nodes = []api.Node{{Name: "n", Off: true}}
	isAbout(t, "a node that is off", s, least(1, "x"), 1, "a", "c")
}

// 18.1: of a name that stands twice the first one counts, be it bound or not, in either order; so the second one's labels count for nothing.
func TestAboutNamesTwice(t *testing.T) {
	isAbout(t, "bound, waits", having(on("a", "x"), waiting("a", "x"), on("b", "x")), least(0, "x"), 2, "a", "b")
	isAbout(t, "waits, bound", having(waiting("a", "x"), on("a", "x"), on("b", "x")), least(0, "x"), 1, "b")
	isAbout(t, "bound twice", having(on("a", "x"), on("b", "x"), on("a", "x")), least(1, "x"), 1, "a", "b")
	isAbout(t, "x, y", having(on("a", "x"), on("a", "y")), least(0, "x"), 1, "a")
	isAbout(t, "x, y: y", having(on("a", "x"), on("a", "y")), least(0, "y"), 0)
	isAbout(t, "y, x", having(on("a", "y"), on("a", "x"), on("a", "x")), least(0, "x"), 0)
	isAbout(t, "no name, twice", having(on("", "x"), on("", "x"), on("a", "x")), least(0, "x"), 2, "", "a")
	isAbout(t, "apart", having(on("b", "x"), on("a", "x"), on("b", "y"), waiting("a", "x")), least(0, "x"), 2, "b", "a")
}

// 18.1: the state's order is its own, not that of names.
func TestAboutInTheStatesOrder(t *testing.T) {
	for _, pods := range orders(crowd("x", "a", "b", "c", "d")) {
		var want []string
		for _, p := range pods {
			want = append(want, p.Name)
		}
		isAbout(t, "an order", having(pods...), least(3, "x"), 1, want...)
	}
}

// 18.1: Least, from far below 0 to far above the count.
func TestAllows(t *testing.T) {
	s := having(crowd("x", "a", "b", "c")...)
	for _, c := range []struct{ least, want int }{
		{0, 3}, {-1, 3}, {math.MinInt, 3}, {1, 2}, {2, 1}, {3, 0}, {4, 0}, {5, 0}, {math.MaxInt, 0},
	} {
		isAbout(t, "three", s, least(c.least, "x"), c.want, "a", "b", "c")
		isAbout(t, "none", s, least(c.least, "z"), 0)
		isAbout(t, "no pods", api.State{}, least(c.least, "x"), 0)
	}
}

// 18.1: random ones, held against the words.
func TestRandomAbout(t *testing.T) {
	r := rand.New(rand.NewSource(181))
	told, left := 0, 0
	for range 10000 {
		s, b := randomState(r, 10, 3), randomBudget(r)
		got, want := budget.About(s, b), aboutByWords(s, b)
		if !slices.Equal(got, want) {
			t.Fatalf("About(%+v, %+v): %v, want %v", s, b, got, want)
		}
		n := budget.Allows(s, b)
		if n != allowsByWords(s, b) {
			t.Fatalf("Allows(%+v, %+v): %d, want %d", s, b, n, allowsByWords(s, b))
		}
		if len(got) > 1 {
			told++
		}
		if n > 0 && n < len(got) {
			left++
		}
	}
	if told < 1500 || left < 500 {
		t.Errorf("drawn: %d %d", told, left)
	}
}
