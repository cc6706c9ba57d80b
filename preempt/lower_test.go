package preempt_test

import (
	"math"
	"math/rand"
	"testing"

	"stevedore/api"
	"stevedore/preempt"
)

// 19.1: the lower ones are the pods that are bound there and whose priority is below p's.
func TestLower(t *testing.T) {
	p := wants(5, 0)
	s := at(node("n"), on("n", "a", 4, 0), on("n", "b", 5, 0), on("n", "c", 6, 0), on("m", "d", 1, 0), on("", "e", 1, 0))
	below(t, "just below, equal, above, elsewhere, nowhere", s, p, "n", "a")
	below(t, "elsewhere, at a node that is not there", s, p, "m", "d")
	below(t, "a node without a name", s, p, "")
	below(t, "a node of which nobody speaks", s, p, "x")
	below(t, "no pods", at(node("n")), p, "n")
	below(t, "nothing at all", api.State{}, api.Pod{}, "")
	s.Pods[4].Hope = "n"
	below(t, "one that hopes", s, p, "n", "a")
	s.Nodes = append(s.Nodes, api.Node{})
	below(t, "a node without a name that is there", s, p, "")
}

// 19.1: they come in budget.Order: falling by priority, then rising by name.
func TestLowerInOrder(t *testing.T) {
	s := at(node("n"), on("n", "b", 1, 0), on("n", "d", 3, 0), on("n", "a", 1, 0), on("n", "c", 1, 0), on("n", "e", 2, 0))
	below(t, "by priority, then by name", s, wants(5, 0), "n", "d", "e", "a", "b", "c")
	below(t, "some of them", s, wants(2, 0), "n", "a", "b", "c")
	below(t, "none", s, wants(1, 0), "n")
}

// 19.1: priorities may be as far apart as numbers can be.
func TestLowerFarApart(t *testing.T) {
	s := at(node("n"), on("n", "a", math.MinInt, 0), on("n", "b", math.MaxInt, 0), on("n", "c", math.MaxInt-1, 0), on("n", "d", 0, 0))
	below(t, "the greatest", s, wants(math.MaxInt, 0), "n", "c", "d", "a")
	below(t, "the smallest", s, wants(math.MinInt, 0), "n")
	below(t, "one more than the smallest", s, wants(math.MinInt+1, 0), "n", "a")
	below(t, "below zero", s, wants(-1, 0), "n", "a")
}

// 19.1: a pod of p's own name is none of them, whatever its priority is.
func TestLowerButItself(t *testing.T) {
	s := at(node("n"), on("n", "a", 1, 0), on("n", "p", 1, 0))
	below(t, "its own name", s, wants(5, 0), "n", "a")
	s = at(node("n"), on("n", "a", 1, 0), on("n", "", 1, 0))
	below(t, "no name", s, api.Pod{Priority: 5}, "n", "a")
	below(t, "another one that has no name", s, wants(5, 0), "n", "", "a")
}

// 19.1 and rule 3: where a name stands twice, the first one counts.
func TestLowerTwice(t *testing.T) {
	twice := func(first, second api.Pod) api.State { return at(node("n"), on("n", "z", 0, 0), first, second) }
	p := wants(5, 0)
	below(t, "the first one there", twice(on("n", "a", 1, 0), on("m", "a", 1, 0)), p, "n", "a", "z")
	below(t, "the first one elsewhere", twice(on("m", "a", 1, 0), on("n", "a", 1, 0)), p, "n", "z")
	below(t, "the first one nowhere", twice(on("", "a", 1, 0), on("n", "a", 1, 0)), p, "n", "z")
	below(t, "both there", twice(on("n", "a", 1, 0), on("n", "a", 1, 0)), p, "n", "a", "z")
	below(t, "the first one too high", twice(on("n", "a", 5, 0), on("n", "a", 1, 0)), p, "n", "z")
	below(t, "the second one too high", twice(on("n", "a", 0, 0), on("n", "a", 9, 0)), p, "n", "a", "z")
	below(t, "its own name", twice(on("m", "p", 1, 0), on("n", "p", 1, 0)), p, "n", "z")
}

// 19.1: by the words, for whatever is drawn.
func TestLowerByTheWords(t *testing.T) {
	r := rand.New(rand.NewSource(191))
	drawn := 0
	for range 6000 {
		s, p := randomState(r), randomComer(r)
		for _, n := range append(nodeNames(), "", "gone", "x") {
			want := lowerByWords(s, p, n)
			if len(want) > 1 {
				drawn++
			}
			same(t, "Lower", preempt.Lower(s, p, n), want)
		}
	}
	if drawn < 4000 {
		t.Errorf("drawn: %d", drawn)
	}
}
