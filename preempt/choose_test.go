package preempt_test

import (
	"math"
	"math/rand"
	"slices"
	"testing"

	"stevedore/api"
	"stevedore/preempt"
)

// over is nodes m, n and o in that order, with those pods.
func over(pods ...api.Pod) api.State {
	return api.State{Nodes: []api.Node{node("m"), node("n"), node("o")}, Pods: pods}
}

// 19.1: the candidates come in the order of the state's nodes.
func TestCandidates(t *testing.T) {
	s := over(on("m", "a", 1, 600), on("n", "b", 9, 600), on("o", "c", 2, 300), on("o", "d", 3, 300))
	p := wants(5, 500)
	could(t, "two of three", s, p, chosen("m", 0, "a"), chosen("o", 0, "c"))
	slices.Reverse(s.Nodes)
	could(t, "the other way round", s, p, chosen("o", 0, "c"), chosen("m", 0, "a"))
	could(t, "one", s, wants(2, 500), chosen("m", 0, "a"))
	could(t, "none", s, wants(1, 500))
	could(t, "none is needed on one of them", s, wants(5, 401), chosen("o", 0, "c"), chosen("m", 0, "a"))
	could(t, "none is needed anywhere", s, wants(5, 400))
	could(t, "nodes alone", over(), p)
	could(t, "no nodes", api.State{Pods: s.Pods}, p)
	could(t, "nothing at all", api.State{}, api.Pod{})
}

// 19.1: a node where p may stand as it is is no candidate; another one is, all the same.
func TestCandidatesBesideAFreeNode(t *testing.T) {
	s := over(on("m", "a", 1, 600))
	could(t, "one that is full", s, wants(5, 500), chosen("m", 0, "a"))
	nowhere(t, "two that are free", s, wants(5, 500))
}

// 19.1 and rule 3: of a node's name that stands twice there is one candidate, where the first one stands.
func TestCandidatesTwice(t *testing.T) {
	s := over(on("m", "a", 1, 600), on("n", "b", 1, 600), on("o", "c", 9, 600))
	s.Nodes = append(s.Nodes, node("m"), node("n"))
	p := wants(5, 500)
	could(t, "nodes twice", s, p, chosen("m", 0, "a"), chosen("n", 0, "b"))
	s.Nodes[0].Off = true
	could(t, "the first one off", s, p, chosen("n", 0, "b"))
	s.Nodes[0].Off, s.Nodes[3].Off = false, true
	could(t, "the second one off", s, p, chosen("m", 0, "a"), chosen("n", 0, "b"))
}

// 19.1: Broken tells how many of the victims are broken.
func TestCandidatesBroken(t *testing.T) {
	s := over(as("x", on("m", "a", 1, 500)), as("x", on("m", "b", 2, 500)), as("x", on("n", "c", 3, 700)), on("o", "d", 4, 700))
	p := wants(5, 1000)
	for k, want := range [][2]int{{0, 0}, {0, 0}, {1, 0}, {2, 1}} {
		could(t, "least", with(s, least(k, "x")), p, chosen("m", want[0], "b", "a"), chosen("n", want[1], "c"), chosen("o", 0, "d"))
	}
	could(t, "two budgets", with(s, least(3, "x"), api.Budget{Name: "all", Least: 4}), p, chosen("m", 2, "b", "a"), chosen("n", 1, "c"), chosen("o", 1, "d"))
	// Of b, then a, the second one is broken; it is put back, and b alone is not broken any more.
	could(t, "who is broken stays", with(s, least(2, "x")), wants(5, 500), chosen("m", 0, "b"), chosen("n", 0, "c"), chosen("o", 0, "d"))
}

// 19.2: none, and false, if p may stand anywhere, or there is no candidate.
func TestChooseNone(t *testing.T) {
	s := over(on("m", "a", 1, 600), on("n", "b", 1, 600), on("o", "c", 1, 500))
	nowhere(t, "the last one is free", s, wants(5, 500))
	best(t, "none is free", s, wants(5, 501), chosen("m", 0, "a"))
	nowhere(t, "nobody is lower", s, wants(1, 501))
	nowhere(t, "too much", s, wants(5, 1001))
	nowhere(t, "no nodes", api.State{Pods: s.Pods}, wants(5, 501))
	nowhere(t, "no pods", over(), wants(5, 1001))
	nowhere(t, "nothing at all", api.State{}, api.Pod{})
	p := wants(5, 501)
	p.Apart = by("host", "x")
	s.Pods[0], s.Pods[1].Apart = as("x", s.Pods[0]), by("zone", "x")
	best(t, "kept apart from a victim", s, p, chosen("m", 0, "a"))
	p.Near = by("host", "x")
	nowhere(t, "no candidate, for another reason", s, p)
}

// 19.2: fewer broken victims, though all else is against it.
func TestChooseFewerBroken(t *testing.T) {
	s := over(as("x", on("m", "a", 0, 600)), on("n", "b", 4, 300), on("n", "c", 4, 300), on("n", "d", 4, 400), on("o", "e", 9, 600))
	p := wants(5, 1000)
	best(t, "no budget", s, p, chosen("m", 0, "a"))
	best(t, "broken", with(s, least(1, "x")), p, chosen("n", 0, "b", "c", "d"))
	some := api.Budget{Name: "some", Least: 5}
	best(t, "all are broken: one is fewer than three", with(s, some), p, chosen("m", 1, "a"))
	best(t, "all but the first are broken", with(s, api.Budget{Name: "some", Least: 3}), p, chosen("m", 0, "a"))
}

// 19.2: then the smaller of the greatest priorities, though all else is against it.
func TestChooseSmallerGreatest(t *testing.T) {
	s := over(on("m", "a", 3, 600), on("n", "b", 2, 300), on("n", "c", 2, 300), on("n", "d", 2, 400), on("o", "e", 9, 600))
	best(t, "three of 2, and one of 3", s, wants(5, 1000), chosen("n", 0, "b", "c", "d"))
	s.Pods[0].Priority = 1
	best(t, "three of 2, and one of 1", s, wants(5, 1000), chosen("m", 0, "a"))
	s = over(on("m", "a", 3, 600), on("m", "b", -9, 400), on("n", "c", 2, 600), on("n", "d", 1, 400), on("o", "e", 9, 600))
	best(t, "the greatest, not the last", s, wants(5, 1000), chosen("n", 0, "c", "d"))
	s.Pods[0].Priority, s.Pods[2].Priority, s.Pods[4].Priority = math.MaxInt-1, math.MaxInt-2, math.MaxInt
	best(t, "beyond what counts in a sum", s, wants(math.MaxInt, 1000), chosen("n", 0, "c", "d"))
}

// 19.2: then the smaller sum, though all else is against it.
func TestChooseSmallerSum(t *testing.T) {
	s := over(on("m", "a", 3, 500), on("m", "b", 2, 500), on("n", "c", 3, 300), on("n", "d", 1, 300), on("n", "e", 0, 400), on("o", "f", 9, 600))
	best(t, "4 and 5", s, wants(5, 1000), chosen("n", 0, "c", "d", "e"))
	s.Pods[1].Priority = 0
	best(t, "4 and 3", s, wants(5, 1000), chosen("m", 0, "a", "b"))
	s.Pods[4].Priority = -2
	best(t, "2 and 3", s, wants(5, 1000), chosen("n", 0, "c", "d", "e"))
}

// 19.2: then fewer victims.
func TestChooseFewer(t *testing.T) {
	s := over(on("m", "a", 3, 300), on("m", "b", 1, 300), on("m", "c", 1, 400), on("n", "d", 3, 500), on("n", "e", 2, 500), on("o", "f", 9, 600))
	best(t, "two, not three", s, wants(5, 1000), chosen("n", 0, "d", "e"))
	slices.Reverse(s.Nodes)
	best(t, "two ahead of three", s, wants(5, 1000), chosen("n", 0, "d", "e"))
}

// 19.2: then the one that stands ahead in the state.
func TestChooseAhead(t *testing.T) {
	s := over(on("m", "b", 3, 600), on("n", "a", 3, 900), on("o", "c", 3, 700))
	best(t, "the first one", s, wants(5, 1000), chosen("m", 0, "b"))
	slices.Reverse(s.Nodes)
	best(t, "the first one, the other way round", s, wants(5, 1000), chosen("o", 0, "c"))
	s.Nodes = append(s.Nodes, node("m"), node("n"))
	best(t, "nodes twice", s, wants(5, 1000), chosen("o", 0, "c"))
	s.Nodes[0].Off = true
	best(t, "the second one", s, wants(5, 1000), chosen("n", 0, "a"))
}

// 19.2: in the sum each priority counts as a number from -MaxPriority to MaxPriority; in the greatest one it does not.
func TestChooseClampedSum(t *testing.T) {
	top := api.MaxPriority
	p := wants(math.MaxInt, 1000)
	sums := func(a, b, c, d int) api.State {
		return over(on("m", "a", a, 500), on("m", "b", b, 500), on("n", "c", c, 500), on("n", "d", d, 500), on("o", "e", math.MaxInt, 0), on("o", "f", math.MaxInt, 600))
	}
	best(t, "above: both count as the bound", sums(math.MaxInt-1, top+7, math.MaxInt-1, top), p, chosen("m", 0, "a", "b"))
	best(t, "just below the bound", sums(math.MaxInt-1, top, math.MaxInt-1, top-1), p, chosen("n", 0, "c", "d"))
	best(t, "below: both count as the bound", sums(0, -top, 0, math.MinInt), p, chosen("m", 0, "a", "b"))
	best(t, "just above the bound below", sums(0, 1-top, 0, math.MinInt), p, chosen("n", 0, "c", "d"))
	best(t, "as far apart as can be", sums(math.MaxInt-1, 1, math.MaxInt-1, math.MinInt), p, chosen("n", 0, "c", "d"))
	best(t, "the greatest ones differ beyond the bound", sums(top+2, 0, top+1, top), p, chosen("n", 0, "c", "d"))
	best(t, "the greatest ones are below the bound", sums(-top-1, -top-1, -top-2, -top-2), p, chosen("n", 0, "c", "d"))
	best(t, "the greatest ones are as far apart as can be", sums(math.MaxInt-1, math.MinInt, math.MinInt, math.MinInt), p, chosen("n", 0, "c", "d"))
}

// 19.2: of names that stand twice the first one's priority counts.
func TestChooseTwice(t *testing.T) {
	s := over(on("m", "a", 2, 600), on("n", "b", 1, 600), on("o", "c", 9, 600), on("m", "a", 0, 600), on("n", "b", 4, 600))
	best(t, "the first one's priority", s, wants(5, 1000), chosen("n", 0, "b"))
}

// 19.1, 19.2: by the words, for whatever is drawn.
func TestChooseByTheWords(t *testing.T) {
	r := rand.New(rand.NewSource(193))
	several, behind, free := 0, 0, 0
	for range 6000 {
		s, p := randomState(r), randomComer(r)
		all := candidatesByWords(s, p)
		same(t, "Candidates", preempt.Candidates(s, p), all)
		want, is := chooseByWords(s, p)
		got, was := preempt.Choose(s, p)
		same(t, "Choose", []any{got, was}, []any{want, is})
		switch {
		case is && len(all) > 1 && want.Node != all[0].Node:
			behind++
		case is && len(all) > 1:
			several++
		case len(all) > 0 && !is:
			free++
		}
	}
	if min(several, behind, free) < 150 {
		t.Errorf("drawn: several %d, not the first one %d, not needed %d", several, behind, free)
	}
}
