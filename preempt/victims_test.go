package preempt_test

import (
	"math/rand"
	"slices"
	"testing"

	"stevedore/api"
	"stevedore/preempt"
)

// 19.1: the chapter's example, both of its answers.
func TestVictimsOfTheChapter(t *testing.T) {
	s := at(node("n"), on("n", "a", 1, 600), on("n", "b", 2, 400))
	puts(t, "500m", s, wants(5, 500), "n", "a")
	puts(t, "1 CPU", s, wants(5, 1000), "n", "b", "a")
	could(t, "500m", s, wants(5, 500), chosen("n", 0, "a"))
	could(t, "1 CPU", s, wants(5, 1000), chosen("n", 0, "b", "a"))
	best(t, "500m", s, wants(5, 500), chosen("n", 0, "a"))
	best(t, "1 CPU", s, wants(5, 1000), chosen("n", 0, "b", "a"))
}

// 19.1: if p does not fit with all lower ones taken away, there are none.
func TestVictimsInVain(t *testing.T) {
	s := at(node("n"), on("n", "a", 1, 600), on("n", "b", 5, 100), on("n", "c", 9, 100))
	none(t, "too much beside those that stay", s, wants(5, 801), "n")
	puts(t, "just as much as there is beside those that stay", s, wants(5, 800), "n", "a")
	none(t, "more than the node gives", at(node("n"), on("n", "a", 1, 600)), wants(5, 1001), "n")
	none(t, "nobody is lower", at(node("n"), on("n", "a", 5, 600)), wants(5, 600), "n")
	none(t, "no pods", at(node("n")), wants(5, 1001), "n")

	s = at(node("n"), on("n", "a", 1, 600))
	s.Nodes[0].Pods = 0
	none(t, "a node that takes no pods", s, wants(5, 500), "n")
	s = at(node("n"), on("n", "a", 1, 600), on("n", "b", 5, 0))
	s.Nodes[0].Pods = 1
	none(t, "a node that is full without the lower ones", s, wants(5, 500), "n")
	s = at(node("n"), on("n", "a", 1, 600))
	s.Nodes[0].Off = true
	none(t, "a node that is off", s, wants(5, 500), "n")
	p := wants(5, 500)
	p.Asks = asks("host", "m")
	none(t, "a node that is not asked for", at(node("n"), on("n", "a", 1, 600)), p, "n")
}

// 19.1: a taint that keeps p off, and one that p bears.
func TestVictimsBehindTaints(t *testing.T) {
	s := at(node("n"), on("n", "a", 1, 600))
	s.Nodes[0].Taints = []api.Taint{{Key: "gpu", Effect: api.EffectKeep}}
	p := wants(5, 500)
	none(t, "a taint", s, p, "n")
	p.Bears = []api.Bear{{Key: "gpu", Any: true}}
	puts(t, "a taint that it bears", s, p, "n", "a")
	s.Nodes[0].Taints[0].Effect = api.EffectShy
	puts(t, "a taint that it shies at", s, wants(5, 500), "n", "a")
}

// 19.1: if p fits with all of them there, all are put back: nobody is put out, and the node is no candidate.
func TestVictimsNotNeeded(t *testing.T) {
	s := at(node("n"), on("n", "a", 1, 300), on("n", "b", 2, 200))
	none(t, "just as much as is free", s, wants(5, 500), "n")
	puts(t, "one more than is free", s, wants(5, 501), "n", "a")
	none(t, "nothing at all", s, wants(5, 0), "n")
}

// 19.1: a node that is not there, whoever is bound to it; and no name.
func TestVictimsOfNoNode(t *testing.T) {
	s := at(node("n"), on("x", "a", 1, 600), on("", "b", 1, 600))
	none(t, "not there", s, wants(5, 500), "x")
	none(t, "no name", s, wants(5, 500), "")
	s.Nodes[0].Name = ""
	none(t, "a node without a name: those that wait are not bound there", s, wants(5, 500), "")
	none(t, "nothing at all", api.State{}, api.Pod{}, "")
}

// 19.1: which of several that would each do are put back: the greatest priority ahead, then rising by name.
func TestVictimsPutBackInOrder(t *testing.T) {
	s := at(node("n"), on("n", "a", 2, 500), on("n", "b", 3, 500))
	puts(t, "the greater one stays", s, wants(5, 500), "n", "a")
	s = at(node("n"), on("n", "b", 2, 500), on("n", "a", 2, 500))
	puts(t, "the one ahead by name stays", s, wants(5, 500), "n", "b")
	s = at(node("n"), on("n", "a", 1, 200), on("n", "b", 1, 200), on("n", "c", 1, 200), on("n", "d", 1, 200), on("n", "e", 1, 200))
	puts(t, "the first ones stay", s, wants(5, 500), "n", "c", "d", "e")
}

// 19.1: one can't be put back, and one behind it can.
func TestVictimsAround(t *testing.T) {
	s := at(node("n"), on("n", "a", 4, 300), on("n", "b", 3, 600), on("n", "c", 2, 200), on("n", "d", 1, 100))
	puts(t, "b is too much, c behind it is not", s, wants(5, 500), "n", "b", "d")
	s = at(node("n"), on("n", "a", 4, 700), on("n", "b", 3, 600), on("n", "c", 2, 500))
	puts(t, "the last one alone stays", s, wants(5, 500), "n", "a", "b")

	p := wants(5, 0)
	p.Ports = []int{80}
	s = at(node("n"), on("n", "a", 4, 0), on("n", "b", 3, 0), on("n", "c", 2, 0))
	s.Pods[1].Ports = []int{443, 80}
	puts(t, "a port", s, p, "n", "b")
	s.Nodes[0].Pods = 2
	puts(t, "a port, and one place beside p", s, p, "n", "b", "c")
	s.Nodes[0].Pods = 1
	puts(t, "a port, and p's place alone", s, p, "n", "a", "b", "c")
	s.Pods[0].Ports = []int{80}
	s.Nodes[0].Pods = 2
	puts(t, "two with the port, and one place beside p", s, p, "n", "a", "b")
}

// 19.1: a node takes so many pods; those that it does not take beside p are put out.
func TestVictimsForAPlace(t *testing.T) {
	s := at(node("n"), on("n", "a", 1, 0), on("n", "b", 3, 0), on("n", "c", 2, 0), on("n", "d", 7, 0))
	for k, want := range [][]string{{"b", "c", "a"}, {"c", "a"}, {"a"}} {
		s.Nodes[0].Pods = 2 + k
		puts(t, "places", s, wants(5, 0), "n", want...)
	}
	s.Nodes[0].Pods = 5
	none(t, "a place for all", s, wants(5, 0), "n")
	s.Nodes[0].Pods = -1
	none(t, "less than no place", s, wants(5, 0), "n")
}

// 19.1: those that are broken are put back ahead of the others, each of these in budget.Order.
func TestVictimsBrokenStay(t *testing.T) {
	s := at(node("n"), as("x", on("n", "a", 1, 500)), on("n", "b", 3, 500))
	puts(t, "no budget", s, wants(5, 500), "n", "a")
	puts(t, "a budget that allows it", with(s, least(0, "x")), wants(5, 500), "n", "a")
	puts(t, "a budget that does not", with(s, least(1, "x")), wants(5, 500), "n", "b")
	puts(t, "a budget about the other one", with(s, least(1, "y")), wants(5, 500), "n", "a")
	puts(t, "a budget about both that allows one", with(s, api.Budget{Name: "all", Least: 1}), wants(5, 500), "n", "b")
	puts(t, "a budget about both that allows none", with(s, api.Budget{Name: "all", Least: 2}), wants(5, 500), "n", "a")
	puts(t, "a budget about both that allows none, and p wants all", with(s, api.Budget{Name: "all", Least: 2}), wants(5, 1000), "n", "b", "a")
	puts(t, "who is broken can't be put back alone", with(at(node("n"), as("x", on("n", "a", 1, 501)), on("n", "b", 3, 500)), least(1, "x")), wants(5, 500), "n", "a")
}

// 19.1: of the lower ones in budget.Order the first ones are those that a budget allows, whoever stands elsewhere counts for it, too.
func TestVictimsOfABudget(t *testing.T) {
	l := []api.Pod{as("x", on("n", "a", 1, 250)), as("x", on("n", "b", 2, 250)), as("x", on("n", "c", 3, 250)), as("y", on("n", "d", 4, 250))}
	s := with(at(node("n"), l...), least(2, "x"))
	puts(t, "c is allowed, b and a are broken", s, wants(5, 500), "n", "d", "c")
	puts(t, "the broken ones and the first of the others stay", s, wants(5, 250), "n", "c")
	puts(t, "one alone stays: the first that is broken", s, wants(5, 750), "n", "d", "c", "a")
	s.Pods = append(s.Pods, as("x", on("m", "e", 9, 0)))
	puts(t, "one elsewhere: a alone is broken", s, wants(5, 500), "n", "c", "b")
	s.Pods = append(s.Pods, as("x", on("gone", "f", 9, 0)))
	puts(t, "two elsewhere: nobody is broken", s, wants(5, 500), "n", "b", "a")
	s.Pods[5].Node = ""
	puts(t, "one elsewhere, and one that waits", s, wants(5, 500), "n", "c", "b")
}

// 19.1: several budgets: who is about none of them, one or two.
func TestVictimsOfBudgets(t *testing.T) {
	s := at(node("n"), as("x", on("n", "a", 1, 250)), as("y", on("n", "b", 2, 250)), as("z", on("n", "c", 3, 250)), on("n", "d", 4, 250))
	puts(t, "x and y", with(s, least(1, "x"), least(1, "y")), wants(5, 500), "n", "d", "c")
	puts(t, "x and z", with(s, least(1, "z"), least(1, "x")), wants(5, 500), "n", "d", "b")
	puts(t, "all but d", with(s, least(1, "z"), least(1, "x"), least(1, "y")), wants(5, 250), "n", "d")
	puts(t, "all but d, one more", with(s, least(1, "z"), least(1, "x"), least(1, "y")), wants(5, 500), "n", "d", "a")
	some := api.Budget{Name: "some", Least: 2, Reqs: []api.Req{{Key: "app", Op: api.OpExists}}}
	puts(t, "c is allowed by one and broken by another", with(s, some, least(1, "z")), wants(5, 500), "n", "d", "a")
	twice := least(0, "x")
	puts(t, "a budget's name twice: the first one counts", with(s, twice, least(1, "x")), wants(5, 500), "n", "b", "a")
}

// 19.1: p fits with the victims away, but may not stand there for another reason: no candidate.
func TestVictimsButMayNot(t *testing.T) {
	s := at(node("n"), on("n", "a", 1, 600), as("x", on("n", "b", 9, 0)), as("y", on("n", "c", 2, 0)))
	p := wants(5, 500)
	puts(t, "nothing more is asked", s, p, "n", "a")
	p.Near = by("host", "z")
	none(t, "wants one near that is not there", s, p, "n")
	p.Near = by("host", "y")
	puts(t, "wants one near that was put back", s, p, "n", "a")
	p.Near, p.Apart = nil, by("host", "x")
	none(t, "keeps apart from one that stays", s, p, "n")
	p.Apart = by("host", "y")
	none(t, "keeps apart from a lower one that was put back", s, p, "n")
	p = as("w", wants(5, 500))
	s.Pods[1].Apart = by("host", "w")
	none(t, "another one keeps apart from it", s, p, "n")
	s.Pods[1].Apart, s.Pods[0].Apart = nil, by("host", "w")
	puts(t, "a victim keeps apart from it", s, p, "n", "a")
	s.Pods[0].Apart, s.Pods[0].Labels, p.Near = nil, labels("app", "v"), by("host", "v")
	none(t, "wants a victim near", s, p, "n")
}

// 19.1: nor if it would not be spread as it wants to be, or if its claims get nothing there.
func TestVictimsButNoSpreadOrVolume(t *testing.T) {
	s := at(node("n"), on("n", "a", 1, 600), as("x", on("n", "b", 9, 0)))
	s.Nodes = append(s.Nodes, node("o"))
	p := as("x", wants(5, 500))
	p.Spreads = []api.Spread{{Key: "host", Skew: 1, Reqs: asks("app", "x")}}
	none(t, "spread", s, p, "n")
	p.Spreads[0].Skew = 2
	puts(t, "spread less evenly", s, p, "n", "a")

	p = wants(5, 500)
	p.Claims = []string{"k"}
	none(t, "no such claim", s, p, "n")
	s.Classes, s.Claims = []api.Class{{Name: "w", Wait: true}}, []api.Claim{{Name: "k", Size: 5, Class: "w"}}
	none(t, "no volume", s, p, "n")
	s.Volumes = []api.Volume{{Name: "v", Size: 5, Class: "w"}}
	puts(t, "a volume", s, p, "n", "a")
	s.Nodes[0].Disks = 0
	none(t, "no place for a claim", s, p, "n")
	s.Nodes[0].Disks = 1
	s.Pods[0].Claims = []string{"other"}
	puts(t, "a victim had the place for a claim", s, p, "n", "a")
	s.Pods[1].Claims = []string{"other"}
	none(t, "one that stays has it", s, p, "n")
}

// 19.1 and rule 3: names twice: the first pod and the first node count, and with a victim all pods of its name are away.
func TestVictimsTwice(t *testing.T) {
	s := at(node("n"), on("n", "a", 1, 600), on("n", "a", 1, 900))
	puts(t, "the first pod", s, wants(5, 500), "n", "a")
	none(t, "the first pod leaves enough", s, wants(5, 400), "n")
	s = at(node("n"), on("m", "a", 1, 600), on("n", "a", 1, 900), on("n", "b", 1, 600))
	puts(t, "the first pod elsewhere", s, wants(5, 500), "n", "b")
	s = at(node("n"), on("n", "a", 1, 600))
	s.Nodes = append(s.Nodes, node("n"))
	s.Nodes[1].Off = true
	puts(t, "the first node", s, wants(5, 500), "n", "a")
	s.Nodes[0].Off, s.Nodes[1].Off = true, false
	none(t, "the first node is off", s, wants(5, 500), "n")
}

// 19.1: a pod of p's own name that is bound there is not put out; it counts as any other one, as 7.1 says.
func TestVictimsBesideItself(t *testing.T) {
	s := at(node("n"), on("n", "a", 1, 500), on("n", "b", 2, 400), on("n", "p", 0, 100))
	puts(t, "its own name stays", s, wants(5, 500), "n", "a")
	puts(t, "and counts", s, wants(5, 501), "n", "b", "a")
	none(t, "and leaves too little", s, wants(5, 901), "n")
}

// 19.1: by the words, for whatever is drawn.
func TestVictimsByTheWords(t *testing.T) {
	r := rand.New(rand.NewSource(192))
	one, several, passed, broken := 0, 0, 0, 0
	for range 6000 {
		s, p := randomState(r), randomComer(r)
		for _, n := range append(nodeNames(), "", "gone") {
			want, is := victimsByWords(s, p, n)
			got, was := preempt.Victims(s, p, n)
			same(t, "Victims", []any{got, was}, []any{want, is})
			plain, _ := victimsByWords(with(s), p, n)
			switch {
			case is && len(want) == 1:
				one++
			case is:
				several++
			}
			if lower := lowerByWords(s, p, n); is && !slices.Equal(want, lower[len(lower)-len(want):]) {
				passed++
			}
			if is && !slices.Equal(plain, want) {
				broken++
			}
		}
	}
	if min(one, several, passed, 5*broken) < 350 {
		t.Errorf("drawn: one %d, several %d, passed over %d, otherwise with budgets %d", one, several, passed, broken)
	}
}
