package spread_test

import (
	"fmt"
	"math"
	"math/rand"
	"slices"
	"testing"

	"stevedore/api"
	"stevedore/spread"
)

// 9.2, the chapter's example.
func TestExample(t *testing.T) {
	nodes, placed := zones("1", "2"), many(2, zone("1"))
	told(t, "zone 2", pod(x(1, 0)), zone("2"), nodes, placed, 0)
	told(t, "zone 1", pod(x(1, 0)), zone("1"), nodes, placed, api.WhySpread)
	if api.WhySpread != 12 {
		t.Errorf("the reason's number: %d", api.WhySpread)
	}
}

// 9.2: a pod without spreads may come anywhere.
func TestNoSpreads(t *testing.T) {
	for _, where := range labelLists() {
		for _, p := range []api.Pod{pod(), {}, {Name: "p", Spreads: []api.Spread{}}} {
			told(t, "no spreads", p, where, zones("1", "2"), many(9, zone("1")), 0)
			told(t, "no spreads, no nodes", p, where, nil, nil, 0)
		}
	}
}

// 9.2: no nodes: the least count is 0, and what is placed in the labels' domain counts all the same.
func TestNoNodes(t *testing.T) {
	for _, nodes := range [][]api.Node{nil, {}, having(nil, labels("rack", "1"))} {
		told(t, "nothing placed", pod(x(1, 0)), zone("1"), nodes, nil, 0)
		told(t, "nothing placed, Skew 0", pod(x(0, 0)), zone("1"), nodes, nil, api.WhySpread)
		told(t, "nothing placed, Skew 0, it is none of them", other(x(0, 0)), zone("1"), nodes, nil, 0)
		told(t, "one there", pod(x(1, 0)), zone("1"), nodes, many(1, zone("1")), api.WhySpread)
		told(t, "one elsewhere", pod(x(1, 0)), zone("1"), nodes, many(1, zone("2")), 0)
		told(t, "no domain", pod(x(1, 0)), nil, nodes, nil, api.WhySpread)
		told(t, "Least below 0", pod(x(1, -1)), zone("1"), nodes, nil, 0)
		told(t, "Least 1", pod(x(1, 1)), zone("1"), nodes, many(1, zone("1")), api.WhySpread)
	}
}

// 9.2: nothing is placed, or nothing that counts.
func TestNothingPlaced(t *testing.T) {
	for _, placed := range [][]api.Placed{nil, {}, {at("a", "y", zone("1"))}, many(2, nil), many(2, labels("rack", "1")), {at("p", "x", zone("1"))}} {
		told(t, "Skew 1", pod(x(1, 0)), zone("1"), zones("1", "2"), placed, 0)
		told(t, "Skew 0", pod(x(0, 0)), zone("1"), zones("1", "2"), placed, api.WhySpread)
		told(t, "Skew 0, it is none of them", other(x(0, 0)), zone("1"), zones("1", "2"), placed, 0)
		told(t, "no domain", other(x(9, 0)), labels("rack", "1"), zones("1", "2"), placed, api.WhySpread)
	}
}

// 9.2: labels without a domain of the key: it may not come, whatever the numbers are, if it meets the Reqs and if not.
func TestLabelsWithoutADomain(t *testing.T) {
	for _, where := range [][]api.Label{nil, {}, labels("rack", "1"), labels("zones", "1"), labels("", "zone"), labels("rack", "zone")} {
		for _, skew := range []int{math.MinInt, 0, 1, math.MaxInt} {
			told(t, "no domain", pod(x(skew, 0)), where, zones("1", "2"), nil, api.WhySpread)
			told(t, "no domain, it is none of them", other(x(skew, 0)), where, zones("1", "2"), many(1, zone("1")), api.WhySpread)
			told(t, "no domain, no nodes", other(x(skew, 5)), where, nil, nil, api.WhySpread)
			told(t, "no domain, nor have nodes", pod(x(skew, 0)), where, having(where), many(1, where), api.WhySpread)
		}
	}
}

// 9.2: labels of a domain that no node has: what is placed there counts, and does not for the least count.
func TestDomainThatNoNodeHas(t *testing.T) {
	nodes := zones("1", "2")
	base := slices.Concat(many(3, zone("1")), many(2, zone("2")))
	for n := range 6 {
		placed := slices.Concat(base, many(n, zone("3")))
		told(t, fmt.Sprint("there: ", n), pod(x(1, 0)), zone("3"), nodes, placed, why(n+1-2 > 1))
		told(t, fmt.Sprint("there, it is none of them: ", n), other(x(1, 0)), zone("3"), nodes, placed, why(n-2 > 1))
		told(t, fmt.Sprint("there, three domains at least: ", n), pod(x(3, 3)), zone("3"), nodes, placed, why(n+1 > 3))
		told(t, fmt.Sprint("elsewhere: ", n), pod(x(1, 0)), zone("2"), nodes, placed, 0)
		told(t, fmt.Sprint("elsewhere, more: ", n), pod(x(1, 0)), zone("1"), nodes, placed, api.WhySpread)
	}
}

// 9.2: what is placed without a domain, or in one that no node has, or that does not meet the Reqs, makes no count greater, nor the least one smaller.
func TestPlacedThatDoesNotCount(t *testing.T) {
	nodes := zones("1", "2")
	base := slices.Concat(many(2, zone("1")), many(2, zone("2")))
	for what, more := range map[string][]api.Placed{
		"no labels": many(9, nil), "no such key": many(9, labels("rack", "1")), "a domain that no node has": many(9, zone("3")),
		"one of a domain that no node has": many(1, zone("3")), "others in the domain": {at("a", "y", zone("1")), at("b", "z", zone("1")), at("c", "", zone("1"))},
		"others in the other domain": {at("a", "y", zone("2")), at("b", "z", zone("2"))}, "its key behind": many(9, labels("zone", "3", "zone", "1")),
		"app of the node": {{Pod: api.Pod{Name: "a"}, Labels: labels("app", "x", "zone", "1")}},
	} {
		for _, placed := range [][]api.Placed{slices.Concat(base, more), slices.Concat(more, base)} {
			told(t, what+", reached", pod(x(1, 0)), zone("1"), nodes, placed, 0)
			told(t, what+", exceeded", pod(x(0, 0)), zone("1"), nodes, placed, api.WhySpread)
			told(t, what+", not below", other(x(-1, 0)), zone("1"), nodes, placed, api.WhySpread)
			told(t, what+", not above", other(x(0, 0)), zone("1"), nodes, placed, 0)
		}
	}
}

// 9.2: one of several spreads is against it: the first, a middle one, the last one, none.
func TestSeveralSpreads(t *testing.T) {
	keys := []string{"host", "rack", "zone"}
	here, there := labels("host", "1", "rack", "1", "zone", "1"), labels("host", "2", "rack", "2", "zone", "2")
	nodes, placed := having(here, there), append(many(2, here), at("y", "y", there))
	for k := range 4 {
		var full, less []api.Spread
		missing := api.Pod{Name: "p", Labels: labels("app", "x")}
		for i, key := range keys {
			skew, reqs, name := 3, app("x"), key
			if i == k {
				skew, name = 2, "none"
			}
			full = append(full, api.Spread{Key: key, Skew: skew, Reqs: reqs})
			missing.Spreads = append(missing.Spreads, api.Spread{Key: name, Skew: 9, Reqs: reqs})
			// Of the app y there is nobody here: a spread of it is not against it.
			if i != k {
				reqs = app("y")
			}
			less = append(less, api.Spread{Key: key, Skew: 1, Reqs: reqs})
		}
		what := fmt.Sprint("spread ", k)
		told(t, what+", its Skew", pod(full...), here, nodes, placed, why(k < 3))
		told(t, what+", its Reqs", pod(less...), here, nodes, placed, why(k < 3))
		told(t, what+", its key", missing, here, nodes, placed, why(k < 3))
		told(t, what+", there", pod(full...), there, nodes, placed, 0)
	}
	told(t, "all of them", pod(x(0, 0), x(0, 0), x(0, 0)), here, nodes, placed, api.WhySpread)
	told(t, "twice the same", pod(x(3, 0), x(3, 0)), here, nodes, placed, 0)
	told(t, "one key, twice, the second against it", pod(x(3, 0), x(2, 0)), here, nodes, placed, api.WhySpread)
	told(t, "one key, twice, the first against it", pod(x(2, 0), x(3, 0)), here, nodes, placed, api.WhySpread)
}

// 9.2: each of several spreads has its own domains, counts and Least.
func TestSpreadsOfTheirOwn(t *testing.T) {
	nodes := having(labels("rack", "1", "zone", "1"), labels("rack", "2", "zone", "1"), labels("rack", "3", "zone", "2"))
	placed := []api.Placed{at("a", "x", nodes[0].Labels), at("b", "x", nodes[1].Labels), at("c", "x", nodes[2].Labels)}
	rack := api.Spread{Key: "rack", Skew: 1, Least: 3, Reqs: app("x")}
	told(t, "rack 1, zone 1", pod(rack, x(1, 2)), nodes[0].Labels, nodes, placed, api.WhySpread)
	told(t, "rack 1, zone 1, of racks alone", pod(rack), nodes[0].Labels, nodes, placed, 0)
	told(t, "rack 3, zone 2", pod(rack, x(1, 2)), nodes[2].Labels, nodes, placed, 0)
	told(t, "rack 3, zone 2, three zones at least", pod(rack, x(1, 3)), nodes[2].Labels, nodes, placed, api.WhySpread)
	rack.Least = 4
	told(t, "rack 3, zone 2, four racks at least", pod(rack, x(1, 2)), nodes[2].Labels, nodes, placed, api.WhySpread)
}

// 9.2: which domain labels are of, and which nodes have.
func TestDomains(t *testing.T) {
	// Two are placed in the domain that is told as full, one in the other one.
	for _, c := range []struct {
		what        string
		where       []api.Label
		full, other []api.Label
		against     bool
	}{
		{"the full one", zone("1"), zone("1"), zone("2"), true},
		{"the other one", zone("2"), zone("1"), zone("2"), false},
		{"an empty value, full", zone(""), zone(""), zone("2"), true},
		{"an empty value, the other one", zone(""), zone("1"), zone(""), false},
		{"twice, the first one full", labels("zone", "1", "zone", "2"), zone("1"), zone("2"), true},
		{"twice, the second one full", labels("zone", "2", "zone", "1"), zone("1"), zone("2"), false},
		{"twice, of what is placed and nodes, the first one", zone("1"), labels("zone", "1", "zone", "2"), zone("2"), true},
		{"twice, of what is placed and nodes, the second one", zone("2"), labels("zone", "1", "zone", "2"), labels("zone", "2", "zone", "1"), false},
		{"twice, an empty one first", labels("zone", "", "zone", "2"), zone(""), zone("2"), true},
		{"among others", labels("a", "2", "zone", "1", "zz", "2"), labels("b", "1", "zone", "1"), labels("c", "1", "zone", "2"), true},
		{"the value of another key", labels("rack", "1", "zone", "2"), labels("rack", "2", "zone", "1"), labels("rack", "1", "zone", "2"), false},
		{"a value that begins alike", zone("11"), zone("1"), zone("11"), false},
	} {
		for _, nodes := range [][]api.Node{having(c.full, c.other), having(nil, c.other, labels("rack", "1"), c.full, c.other, c.full)} {
			placed := slices.Concat(many(2, c.full), []api.Placed{at("b", "x", c.other)})
			told(t, c.what, pod(x(1, 0)), c.where, nodes, placed, why(c.against))
			told(t, c.what+", Skew 2", pod(x(2, 0)), c.where, nodes, placed, 0)
			told(t, c.what+", Skew 0", other(x(0, 0)), c.where, nodes, placed, why(c.against))
		}
	}
	told(t, "an empty key", pod(api.Spread{Skew: 1, Reqs: app("x")}), labels("", "1"), having(labels("", "1"), labels("", "2")), many(1, labels("", "1")), api.WhySpread)
	told(t, "an empty key that is not there", pod(api.Spread{Skew: 9}), zone("1"), zones("1"), nil, api.WhySpread)
	told(t, "nodes of one name", pod(x(1, 0)), zone("1"), []api.Node{{Name: "n", Labels: zone("1")}, {Name: "n", Labels: zone("2")}}, many(1, zone("1")), api.WhySpread)
	told(t, "a node where nobody comes", pod(x(1, 0)), zone("1"), []api.Node{{Labels: zone("1")}, {Labels: zone("2"), Off: true}}, many(1, zone("1")), api.WhySpread)
}

// 9.2: a spread that asks nothing counts all, the pod too.
func TestSpreadThatAsksNothing(t *testing.T) {
	for _, reqs := range [][]api.Req{nil, {}} {
		s := api.Spread{Key: "zone", Skew: 1, Reqs: reqs}
		placed := []api.Placed{at("a", "y", zone("1")), {Pod: api.Pod{Name: "b"}, Labels: zone("2")}, at("c", "z", zone("1"))}
		for _, p := range []api.Pod{pod(s), other(s), {Name: "p", Spreads: []api.Spread{s}}} {
			told(t, "the greater one", p, zone("1"), zones("1", "2"), placed, api.WhySpread)
			told(t, "the lesser one", p, zone("2"), zones("1", "2"), placed, 0)
			told(t, "nothing placed", p, zone("1"), zones("1", "2"), nil, 0)
		}
	}
}

// 9.2: what is placed of the pod's own name does not count, alone and among others, of several, whatever its labels are; neither for the count nor for the least one.
func TestOwnName(t *testing.T) {
	nodes := zones("1", "2")
	own := at("p", "x", zone("1"))
	told(t, "alone", pod(x(1, 0)), zone("1"), nodes, []api.Placed{own}, 0)
	told(t, "another one", pod(x(1, 0)), zone("1"), nodes, []api.Placed{at("q", "x", zone("1"))}, api.WhySpread)
	told(t, "twice", pod(x(1, 0)), zone("1"), nodes, []api.Placed{own, own}, 0)
	told(t, "it and one there", pod(x(1, 0)), zone("1"), nodes, []api.Placed{own, at("q", "x", zone("1"))}, api.WhySpread)
	told(t, "it and one elsewhere", pod(x(1, 0)), zone("1"), nodes, []api.Placed{at("q", "x", zone("2")), own}, 0)
	// It would make the least count 1.
	l := []api.Placed{at("q", "x", zone("1")), at("p", "x", zone("2"))}
	told(t, "for the least count", pod(x(1, 0)), zone("1"), nodes, l, api.WhySpread)
	l[1].Pod.Name = "r"
	told(t, "another one for the least count", pod(x(1, 0)), zone("1"), nodes, l, 0)
	for k := range 4 {
		among := slices.Insert(slices.Concat(many(1, zone("1")), many(1, zone("2")), many(1, zone("3"))), k, own)
		told(t, fmt.Sprint("among others, ", k), pod(x(1, 0)), zone("1"), nodes, among, 0)
		told(t, fmt.Sprint("among others, it is none of them, ", k), other(x(0, 0)), zone("1"), nodes, among, 0)
	}
	told(t, "none of them now", other(x(0, 0)), zone("1"), nodes, []api.Placed{own}, 0)
	unlike := own
	unlike.Pod.Node, unlike.Pod.Priority = "elsewhere", 7
	told(t, "unlike it but for the name", pod(x(1, 0)), zone("1"), nodes, []api.Placed{unlike}, 0)
	told(t, "no name", api.Pod{Spreads: []api.Spread{{Key: "zone", Skew: 1}}}, zone("1"), nodes, []api.Placed{{Labels: zone("1")}}, 0)
	told(t, "no name, another one", pod(api.Spread{Key: "zone", Skew: 1}), zone("1"), nodes, []api.Placed{{Labels: zone("1")}}, api.WhySpread)
	told(t, "a name that begins alike", pod(x(1, 0)), zone("1"), nodes, []api.Placed{at("pp", "x", zone("1"))}, api.WhySpread)
}

// 9.1, 9.2: Counts and Skew count what Check leaves out.
func TestOwnNameInCounts(t *testing.T) {
	nodes, l := zones("1", "2"), []api.Placed{at("p", "x", zone("1"))}
	shown(t, "alone", x(1, 0), nodes, l, 1, "1", "1", "2", "0")
	l = append(l, at("p", "x", zone("1")), at("q", "x", zone("2")), at("q", "x", zone("1")))
	shown(t, "among others", x(1, 0), nodes, l, 2, "1", "3", "2", "1")
	told(t, "among others", pod(x(1, 0)), zone("1"), nodes, l, 0)
}

// 9.2: one is added, just if the pod's own labels meet the Reqs, all of them.
func TestOwnLabels(t *testing.T) {
	nodes, placed := zones("1", "2"), many(1, zone("1"))
	both := api.Spread{Key: "zone", Skew: 0, Reqs: append(app("x"), api.Req{Key: "tier", Op: api.OpExists})}
	for _, c := range []struct {
		what string
		own  []api.Label
		reqs []api.Req
		is   bool
	}{
		{"they meet", labels("app", "x"), app("x"), true},
		{"they do not", labels("app", "y"), app("x"), false},
		{"no labels", nil, app("x"), false},
		{"no labels, nothing asked", nil, nil, true},
		{"half of it", labels("app", "x"), both.Reqs, false},
		{"all of it", labels("app", "x", "tier", "1"), both.Reqs, true},
		{"twice, the first one", labels("app", "x", "app", "y"), app("x"), true},
		{"twice, the second one", labels("app", "y", "app", "x"), app("x"), false},
		{"not there", nil, []api.Req{{Key: "app", Op: api.OpLacks}}, true},
		{"an Op that there is not", labels("app", "x"), []api.Req{{Key: "app", Op: 9}}, false},
		{"the node's label", nil, []api.Req{{Key: "zone", Op: api.OpExists}}, false},
	} {
		s := api.Spread{Key: "zone", Reqs: c.reqs}
		p := api.Pod{Name: "p", Labels: c.own, Spreads: []api.Spread{s}}
		told(t, c.what+", nothing placed", p, zone("1"), nodes, nil, why(c.is))
		p.Spreads[0].Skew = 1
		told(t, c.what+", Skew 1", p, zone("1"), nodes, nil, 0)
	}
	told(t, "the greater count, it meets", pod(x(1, 0)), zone("1"), nodes, placed, api.WhySpread)
	told(t, "the greater count, it does not", other(x(1, 0)), zone("1"), nodes, placed, 0)
	told(t, "the greater count above Skew, it does not", other(x(0, 0)), zone("1"), nodes, placed, api.WhySpread)
}

// 9.2: fewer domains than Least, just as many, more; Least 0, 1, below 0, very great, very small.
func TestLeast(t *testing.T) {
	// Each domain has three: less the least count one more is 1, less 0 it is 4.
	for n := 1; n <= 4; n++ {
		values := []string{"1", "2", "3", "4"}[:n]
		nodes := zones(append(values, values...)...) // nodes do not count, but their domains
		var placed []api.Placed
		for _, v := range values {
			placed = append(placed, many(3, zone(v))...)
		}
		placed = append(placed, many(3, zone("9"))...)
		for _, least := range []int{math.MinInt, math.MinInt + 1, -5, -1, 0, 1, 2, 3, 4, 5, 6, 8, 9, math.MaxInt - 1, math.MaxInt} {
			few := n < least
			what := fmt.Sprintf("%d domains, Least %d", n, least)
			told(t, what+", Skew 1", pod(x(1, least)), zone("1"), nodes, placed, why(few))
			told(t, what+", Skew 3", pod(x(3, least)), zone("1"), nodes, placed, why(few))
			told(t, what+", Skew 4", pod(x(4, least)), zone("1"), nodes, placed, 0)
			told(t, what+", Skew 0", pod(x(0, least)), zone("1"), nodes, placed, api.WhySpread)
			told(t, what+", Skew 0, it is none of them", other(x(0, least)), zone("1"), nodes, placed, why(few))
		}
	}
}

// 9.2: Skew just reached and just exceeded, 0 and below 0, very great and very small.
func TestSkew(t *testing.T) {
	nodes := zones("1", "2")
	for here := range 13 {
		for there := range 13 {
			placed := slices.Concat(many(here, zone("1")), many(there, zone("2")))
			much := here + 1 - min(here, there)
			what := fmt.Sprintf("%d and %d", here, there)
			told(t, what+", reached", pod(x(much, 0)), zone("1"), nodes, placed, 0)
			told(t, what+", exceeded", pod(x(much-1, 0)), zone("1"), nodes, placed, api.WhySpread)
			told(t, what+", reached, it is none of them", other(x(much-1, 0)), zone("1"), nodes, placed, 0)
			told(t, what+", exceeded, it is none of them", other(x(much-2, 0)), zone("1"), nodes, placed, api.WhySpread)
			for _, skew := range []int{math.MaxInt, math.MaxInt - 1, math.MaxInt32, 1 << 32} {
				told(t, what+", very great", pod(x(skew, 0)), zone("1"), nodes, placed, 0)
				told(t, what+", very great, too few domains", pod(x(skew, 3)), zone("1"), nodes, placed, 0)
			}
			for _, skew := range []int{-1, -2, -13, math.MinInt32, -1 << 32, math.MinInt + 1, math.MinInt} {
				told(t, what+", below 0", pod(x(skew, 0)), zone("1"), nodes, placed, api.WhySpread)
				told(t, what+", below 0, it is none of them", other(x(skew, 3)), zone("1"), nodes, placed, api.WhySpread)
			}
		}
	}
}

// 9.2: a Skew below 0 lets come where fewer are than in each domain: in one that no node has.
func TestSkewBelowZero(t *testing.T) {
	nodes, placed := zones("1", "2"), slices.Concat(many(3, zone("1")), many(4, zone("2")))
	told(t, "-2", pod(x(-2, 0)), zone("3"), nodes, placed, 0)
	told(t, "-3", pod(x(-3, 0)), zone("3"), nodes, placed, api.WhySpread)
	told(t, "-3, it is none of them", other(x(-3, 0)), zone("3"), nodes, placed, 0)
	told(t, "-2, three domains at least", pod(x(-2, 3)), zone("3"), nodes, placed, api.WhySpread)
}

// 9.2: the least count is the least number, and not the least text, and not the first or the last domain's.
func TestLeastCountOfAll(t *testing.T) {
	counts := []int{10, 9, 12}
	for k := range 6 {
		mixed := slices.Clone(counts)
		slices.Reverse(mixed[k/3:])
		mixed = append(mixed[k%3:], mixed[:k%3]...)
		var placed []api.Placed
		values := []string{"9", "10", "11"}
		for i, v := range values {
			placed = append(placed, many(mixed[i], zone(v))...)
		}
		for i, v := range values {
			told(t, fmt.Sprint(mixed, " zone ", v), pod(x(2, 3)), zone(v), zones(values...), placed, why(mixed[i]+1-9 > 2))
		}
	}
}

// 9.2: random ones, held against the words.
func TestRandomChecks(t *testing.T) {
	r := rand.New(rand.NewSource(92))
	seen := map[int]int{}
	for range 20000 {
		p, nodes, placed := randomPod(r, "p", 2), randomNodes(r, 6), randomPlaced(r, 8)
		for _, where := range labelLists() {
			want := whyByWords(p, where, nodes, placed)
			if got := spread.Check(p, where, nodes, placed); got != want {
				t.Fatalf("Check(%+v, %v, %+v, %+v): %d, want %d", p, where, nodes, placed, got, want)
			}
			if len(p.Spreads) > 0 {
				seen[want]++
			}
		}
	}
	if seen[0] < 10000 || seen[api.WhySpread] < 10000 {
		t.Errorf("drawn: %v", seen)
	}
}
