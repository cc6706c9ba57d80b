package budget_test

import (
	"math"
	"math/rand"
	"slices"
	"testing"

	"stevedore/api"
	"stevedore/budget"
)

// 18.2: by falling priority, then rising by name.
func TestOrder(t *testing.T) {
	s := having(ranked("a", 1), ranked("b", 5), ranked("c", 1), ranked("d", 3))
	for _, l := range orders(names("a", "b", "c", "d")) {
		ordered(t, "an order", s, l, "b", "d", "a", "c")
	}
	ordered(t, "some of them", s, names("c", "a", "b"), "b", "a", "c")
	ordered(t, "one", s, names("c"), "c")
}

// 18.2: no names, names that are not there, names twice.
func TestOrderOfNames(t *testing.T) {
	s := having(ranked("a", 1), ranked("b", 5))
	ordered(t, "no names", s, nil)
	ordered(t, "an empty list", s, names())
	ordered(t, "no pods", api.State{}, names("a", "b", ""))
	ordered(t, "not there", s, names("z", "", "nobody"))
	ordered(t, "some not there", s, names("z", "a", "", "b", "c"), "b", "a")
	ordered(t, "twice", s, names("a", "a"), "a")
	ordered(t, "twice, apart", s, names("a", "b", "a", "b", "a"), "b", "a")
	ordered(t, "no name is one of a pod", having(ranked("", 2), ranked("a", 3), ranked("b", 2)), names("b", "", "a", ""), "a", "", "b")
}

// 18.2: pods of one priority rise by name, bytewise; a name that another one begins with stands ahead of it.
func TestOrderOfOnePriority(t *testing.T) {
	all := names("a", "a-", "a.b", "a0", "aa", "ab", "b", "b1", "b10", "b2")
	var pods []api.Pod
	for k := range all {
		pods = append(pods, ranked(all[len(all)-1-k], 7))
	}
	r := rand.New(rand.NewSource(183))
	for range 50 {
		l := slices.Clone(all)
		r.Shuffle(len(l), func(a, b int) { l[a], l[b] = l[b], l[a] })
		ordered(t, "one priority", having(pods...), l, all...)
	}
	ordered(t, "prefixes of unlike priorities", having(ranked("a", 1), ranked("ab", 2), ranked("abc", 3)), names("a", "ab", "abc"), "abc", "ab", "a")
}

// 18.2: priorities below 0, and as far apart as numbers can be.
func TestOrderOfPriorities(t *testing.T) {
	s := having(
		ranked("a", -1), ranked("b", 0), ranked("c", -api.MaxPriority), ranked("d", api.MaxPriority),
		ranked("e", math.MinInt), ranked("f", math.MaxInt), ranked("g", math.MinInt), ranked("h", -1),
	)
	r := rand.New(rand.NewSource(184))
	for range 200 {
		l := names("a", "b", "c", "d", "e", "f", "g", "h")
		r.Shuffle(len(l), func(a, b int) { l[a], l[b] = l[b], l[a] })
		ordered(t, "priorities", s, l, "f", "d", "b", "a", "h", "c", "e", "g")
	}
	for _, l := range orders(names("e", "f", "b")) {
		ordered(t, "the ends", s, l, "f", "b", "e")
	}
}

// 18.2: of two pods of one name with unlike priorities the first one counts.
func TestOrderOfNamesTwice(t *testing.T) {
	ordered(t, "high first", having(ranked("a", 9), ranked("b", 5), ranked("a", 1)), names("b", "a"), "a", "b")
	ordered(t, "low first", having(ranked("a", 1), ranked("b", 5), ranked("a", 9)), names("a", "b"), "b", "a")
}

// 18.2: pods that are not bound are ordered too; budgets count for nothing.
func TestOrderOfUnbound(t *testing.T) {
	wait := api.Pod{Name: "w", Priority: 3}
	s := with(having(ranked("a", 1), wait, ranked("z", 5)), api.Budget{Least: 9})
	ordered(t, "one waits", s, names("a", "w", "z"), "z", "w", "a")
	ordered(t, "all wait", having(api.Pod{Name: "b"}, api.Pod{Name: "a"}, wait), names("b", "a", "w"), "w", "a", "b")
	ordered(t, "waits first, then bound", having(wait, ranked("w", 0), ranked("a", 1)), names("a", "w"), "w", "a")
}

// 18.2: random ones, held against the words.
func TestRandomOrder(t *testing.T) {
	r := rand.New(rand.NewSource(185))
	told := 0
	for range 10000 {
		s, l := randomState(r, 12, 1), randomVictims(r, 14)
		got, want := budget.Order(s, l), orderByWords(s, l)
		if !slices.Equal(got, want) {
			t.Fatalf("Order(%+v, %v): %v, want %v", s, l, got, want)
		}
		if len(got) > 2 {
			told++
		}
	}
	if told < 2500 {
		t.Errorf("drawn: %d", told)
	}
}
