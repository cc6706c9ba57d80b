package budget_test

import (
	"math"
	"math/rand"
	"slices"
	"strconv"
	"testing"

	"stevedore/api"
	"stevedore/budget"
)

// 18.1, 18.3: with no budgets nothing is broken, and of no victims none is.
func TestNothingToBreak(t *testing.T) {
	s := having(crowd("x", "a", "b", "c")...)
	breaks(t, "no budgets", s, names("a", "b", "c"))
	breaks(t, "no victims", with(s, least(9, "x")), nil)
	breaks(t, "an empty list of victims", with(s, least(9, "x")), names())
	breaks(t, "nothing at all", api.State{}, nil)
	breaks(t, "no pods", with(api.State{}, least(9, "x"), api.Budget{Least: 1}), names("a", "", "b"))
	breaks(t, "a budget about others", with(s, least(9, "y")), names("a", "b", "c"))
}

// 18.1: those that are broken, in the order of the victims, not in that of names or of the state.
func TestBrokenInOrder(t *testing.T) {
	s := with(having(crowd("x", "a", "b", "c", "d")...), least(2, "x"))
	for _, victims := range orders(names("a", "b", "c", "d")) {
		breaks(t, "an order", s, victims, victims[2:]...)
	}
	breaks(t, "y between", with(having(on("a", "x"), on("b", "y"), on("c", "x")), least(2, "x")), names("b", "c", "a"), "c", "a")
}

// 18.1: who is no bound pod of the state counts for nothing: not there, not bound, of no name.
func TestVictimsThatCountForNothing(t *testing.T) {
	s := with(having(on("a", "x"), on("b", "x"), waiting("c", "x")), least(1, "x"))
	breaks(t, "not there", s, names("z", "a", "nobody"))
	breaks(t, "not there, and one too many", s, names("z", "a", "z", "b"), "b")
	breaks(t, "not bound", s, names("c", "a"))
	breaks(t, "not bound, and one too many", s, names("c", "a", "c", "b", "c"), "b")
	breaks(t, "no name", s, names("", "a", ""))
	breaks(t, "none that counts", s, names("", "z", "c"))
	nameless := with(having(on("", "x"), on("a", "x")), least(1, "x"))
	breaks(t, "a pod without a name is one", nameless, names("", "a"), "a")
	breaks(t, "a pod without a name, behind", nameless, names("a", ""), "")
	breaks(t, "a pod without a name that waits", with(having(waiting("", "x"), on("a", "x"), on("b", "x")), least(1, "x")), names("", "a", "b"), "b")
	far := on("a", "x")
	far.Node = "not there"
	breaks(t, "bound to what is not there", with(having(far), least(1, "x")), names("a"), "a")
}

// 18.1: a name that stood ahead counts for nothing, whether it was broken or not.
func TestVictimsTwice(t *testing.T) {
	s := with(having(crowd("x", "a", "b", "c")...), least(1, "x"))
	breaks(t, "twice, allowed", s, names("a", "a", "a"))
	breaks(t, "twice, then others", s, names("a", "a", "b", "a", "b"))
	breaks(t, "twice, and one too many", s, names("a", "a", "b", "b", "c"), "c")
	breaks(t, "the broken one twice", s, names("a", "b", "c", "c", "a", "c"), "c")
	breaks(t, "broken at once, twice", with(s, least(3, "x")), names("a", "a"), "a")
}

// 18.1, 18.4: as many as a budget allows, one more, one fewer, for each Least.
func TestAsManyAsItAllows(t *testing.T) {
	all := names("a", "b", "c", "d")
	for _, n := range []int{math.MinInt, -1, 0, 1, 2, 3, 4, 5, math.MaxInt} {
		s := with(having(crowd("x", all...)...), least(n, "x"))
		allowed := budget.Allows(s, s.Budgets[0])
		same(t, "allowed", allowed, 4-min(max(n, 0), 4))
		for k := range len(all) + 1 {
			breaks(t, "Least "+strconv.Itoa(n), s, all[:k], all[min(k, allowed):k]...)
		}
	}
}

// 18.1: if one of several budgets that are about a victim allows none any more, it is broken, and all of them allow one fewer then.
func TestSeveralBudgets(t *testing.T) {
	both := func(name string) api.Pod {
		return api.Pod{Name: name, Node: "n", Labels: labels("app", "x", "tier", "1")}
	}
	tier := api.Budget{Name: "tier", Least: 1, Reqs: []api.Req{{Key: "tier", Op: api.OpExists}}}
	s := having(both("a"), both("b"), on("c", "x"), on("d", "x"))
	// Of x four, two of them allowed; of tier two, one of them allowed.
	two := with(s, least(2, "x"), tier)
	breaks(t, "b breaks tier, and x allows one fewer then", two, names("a", "b", "c"), "b", "c")
	breaks(t, "c ahead of it", two, names("a", "c", "b", "d"), "b", "d")
	breaks(t, "x alone", with(s, least(2, "x")), names("a", "b", "c"), "c")
	breaks(t, "tier alone", with(s, tier), names("a", "b", "c"), "b")
	// None is allowed: it stays at none, and what another one allows goes down still.
	none := tier
	none.Least = 2
	breaks(t, "none below 0", with(s, none, least(1, "x")), names("a", "b", "c", "d"), "a", "b", "d")
	breaks(t, "in the other order", with(s, least(1, "x"), none), names("a", "b", "c", "d"), "a", "b", "d")
	breaks(t, "both allow none", with(s, least(9, "x"), none), names("a", "b", "c", "d"), "a", "b", "c", "d")
	breaks(t, "each allows all", with(s, least(0, "x"), api.Budget{Name: "all"}), names("a", "b", "c", "d"))
	// A victim that is broken by one budget is told once, however many it breaks.
	breaks(t, "broken by three", with(s, none, least(4, "x"), api.Budget{Name: "all", Least: 4}), names("b", "a"), "b", "a")
}

// 18.1: budgets that are alike but for their names count each; the order of budgets does not count.
func TestBudgetsInEachOrder(t *testing.T) {
	s := having(on("a", "x"), on("b", "y"), on("c", "x"), api.Pod{Name: "d", Node: "n", Labels: labels("tier", "1")})
	l := []api.Budget{least(1, "x"), least(1, "y"), {Name: "all", Least: 2}, {Name: "all-too", Least: 2}}
	for _, budgets := range orders(l) {
		breaks(t, "an order", with(s, budgets...), names("c", "d", "a", "b"), "a", "b")
		breaks(t, "another one", with(s, budgets...), names("b", "a", "d"), "b", "d")
	}
}

// 18.1, rule 3: of two budgets of one name the first one counts, whichever allows more.
func TestBudgetsOfOneName(t *testing.T) {
	s := having(on("a", "x"), on("b", "x"), on("c", "y"))
	b := func(n int, value string) api.Budget { return api.Budget{Name: "b", Least: n, Reqs: app(value)} }
	breaks(t, "more, fewer", with(s, b(0, "x"), b(2, "x")), names("a", "b"))
	breaks(t, "fewer, more", with(s, b(2, "x"), b(0, "x")), names("a", "b"), "a", "b")
	breaks(t, "about others, fewer", with(s, b(1, "y"), b(2, "x")), names("a", "b", "c"), "c")
	breaks(t, "twice just alike", with(s, b(0, "x"), b(0, "x")), names("a", "b"))
	breaks(t, "another name between", with(s, b(1, "x"), least(1, "y"), b(2, "x"), b(0, "y")), names("a", "b", "c"), "b", "c")
	breaks(t, "no name, twice", with(s, api.Budget{}, api.Budget{Least: 3}), names("a", "b", "c"))
}

// 18.1: of two pods of one name the first one counts, for the victim and for the count.
func TestVictimsNamedTwice(t *testing.T) {
	breaks(t, "bound first", with(having(on("a", "x"), waiting("a", "x"), on("b", "x")), least(1, "x")), names("a", "b"), "b")
	breaks(t, "waiting first: no victim, and one fewer", with(having(waiting("a", "x"), on("a", "x"), on("b", "x")), least(1, "x")), names("a", "b"), "b")
	breaks(t, "counted once", with(having(on("a", "x"), on("a", "x"), on("b", "x")), least(2, "x")), names("a"), "a")
	breaks(t, "x first: y is not about it", with(having(on("a", "x"), on("a", "y"), on("b", "y")), least(1, "y")), names("a", "b"), "b")
	breaks(t, "y first: x is not about it", with(having(on("a", "y"), on("a", "x"), on("b", "x")), least(1, "x")), names("a"))
	breaks(t, "y first: and of x there is one alone", with(having(on("a", "y"), on("a", "x"), on("b", "x")), least(1, "x")), names("b"), "b")
}

// 18.1: random ones, held against the words.
func TestRandomBroken(t *testing.T) {
	r := rand.New(rand.NewSource(182))
	told, several := 0, 0
	for range 10000 {
		s, victims := randomState(r, 12, 5), randomVictims(r, 9)
		got, want := budget.Broken(s, victims), brokenByWords(s, victims)
		if !slices.Equal(got, want) {
			t.Fatalf("Broken(%+v, %v): %v, want %v", s, victims, got, want)
		}
		if len(got) > 0 && len(got) < len(countedByWords(s, victims)) {
			told++
		}
		if len(got) > 1 {
			several++
		}
	}
	if told < 500 || several < 400 {
		t.Errorf("drawn: %d %d", told, several)
	}
}
