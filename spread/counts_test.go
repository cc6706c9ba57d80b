package spread_test

import (
	"math"
	"math/rand"
	"slices"
	"strconv"
	"testing"

	"stevedore/api"
	"stevedore/spread"
)

// 9.1: ordinary ones.
func TestCounts(t *testing.T) {
	nodes := zones("2", "1", "3")
	placed := slices.Concat(many(2, zone("1")), many(1, zone("3")))
	shown(t, "two, none, one", x(1, 0), nodes, placed, 2, "1", "2", "2", "0", "3", "1")
	shown(t, "two, two, two", x(1, 0), nodes, slices.Concat(many(2, zone("1")), many(2, zone("2")), many(2, zone("3"))), 0, "1", "2", "2", "2", "3", "2")
	shown(t, "one, three, two", x(1, 0), nodes, slices.Concat(many(1, zone("1")), many(3, zone("2")), many(2, zone("3"))), 2, "1", "1", "2", "3", "3", "2")
	shown(t, "one domain", x(1, 0), zones("1"), placed, 0, "1", "2")
}

// 9.1, the chapter's example, and the same where the first one has none.
func TestCountsOfTheExample(t *testing.T) {
	shown(t, "two and none", x(1, 0), zones("1", "2"), many(2, zone("1")), 2, "1", "2", "2", "0")
	shown(t, "none and two", x(1, 0), zones("1", "2"), many(2, zone("2")), 2, "1", "0", "2", "2")
}

// 9.1: no domains: no nodes, nodes without labels, nodes of other keys.
func TestNoDomains(t *testing.T) {
	for _, nodes := range [][]api.Node{nil, {}, {{Name: "n"}}, having(nil, []api.Label{}, labels("rack", "zone"))} {
		for _, placed := range [][]api.Placed{nil, {}, many(3, zone("1")), many(3, nil)} {
			shown(t, "no domains", x(1, 0), nodes, placed, 0)
			shown(t, "no domains, at least 1", x(1, 1), nodes, placed, 0)
			shown(t, "no domains, asks nothing", api.Spread{Key: "zone"}, nodes, placed, 0)
		}
	}
}

// 9.1: nothing is placed, or nothing that counts.
func TestCountsOfNothingPlaced(t *testing.T) {
	for _, placed := range [][]api.Placed{nil, {}, {at("a", "y", zone("1"))}, many(2, nil), many(2, labels("rack", "1")), many(2, zone("3"))} {
		shown(t, "nothing", x(1, 0), zones("2", "1"), placed, 0, "1", "0", "2", "0")
	}
}

// 9.1: which nodes have a domain, and which one it is.
func TestDomainsOfNodes(t *testing.T) {
	one := []api.Placed{at("a", "x", zone("1"))}
	for _, c := range []struct {
		what   string
		nodes  []api.Node
		placed []api.Placed
		skew   int
		counts []string
	}{
		{"some have the key", having(nil, zone("2"), labels("rack", "1"), zone("1"), nil), one, 1, []string{"1", "1", "2", "0"}},
		{"several nodes of one domain", zones("1", "2", "1", "1", "2"), one, 1, []string{"1", "1", "2", "0"}},
		{"an empty value", zones("", "1"), append(many(2, zone("")), one...), 1, []string{"", "2", "1", "1"}},
		{"an empty value alone", zones(""), one, 0, []string{"", "0"}},
		{"twice, of nodes", having(labels("zone", "1", "zone", "2"), labels("zone", "3", "a", "1", "zone", "1")), one, 1, []string{"1", "1", "3", "0"}},
		{"twice, of what is placed", zones("1", "2"), []api.Placed{at("a", "x", labels("zone", "1", "zone", "2"))}, 1, []string{"1", "1", "2", "0"}},
		{"twice, an empty one first", having(labels("zone", "", "zone", "1")), []api.Placed{at("a", "x", labels("zone", "", "zone", "1"))}, 0, []string{"", "1"}},
		{"among others", having(labels("a", "1", "zone", "1", "zz", "2")), []api.Placed{at("a", "x", labels("b", "1", "zone", "1"))}, 0, []string{"1", "1"}},
		{"the value of another key", having(labels("rack", "1", "zone", "2"), labels("rack", "2", "zone", "1")), []api.Placed{at("a", "x", labels("rack", "1", "zone", "2"))}, 1, []string{"1", "0", "2", "1"}},
		{"nodes of one name", []api.Node{{Name: "n", Labels: zone("1")}, {Name: "n", Labels: zone("2")}}, one, 1, []string{"1", "1", "2", "0"}},
		{"nodes where nobody comes", []api.Node{{Name: "n", Labels: zone("1"), Off: true}, {Name: "m", Labels: zone("2"), Taints: []api.Taint{{Key: "k", Effect: api.EffectKeep}}}}, one, 1, []string{"1", "1", "2", "0"}},
		{"no words", zones("A B", "\xff", "é"), []api.Placed{at("a", "x", zone("\xff"))}, 1, []string{"A B", "0", "é", "0", "\xff", "1"}},
	} {
		shown(t, c.what, x(1, 0), c.nodes, c.placed, c.skew, c.counts...)
	}
	shown(t, "an empty key", api.Spread{Reqs: app("x")}, having(labels("", "1"), zone("1")), []api.Placed{at("a", "x", labels("", "1")), at("b", "x", zone("1"))}, 0, "1", "1")
	shown(t, "another key", api.Spread{Key: "rack", Reqs: app("x")}, having(labels("rack", "7", "zone", "1"), zone("2")), []api.Placed{at("a", "x", labels("rack", "7", "zone", "1")), at("b", "x", zone("7"))}, 0, "7", "1")
}

// 9.1: values rise as texts, byte by byte, and not as numbers.
func TestValuesRise(t *testing.T) {
	shown(t, "10 and 9", x(1, 0), zones("9", "10"), many(1, zone("9")), 1, "10", "0", "9", "1")
	shown(t, "numbers", x(1, 0), zones("2", "100", "10", "1", "20", "09", ""), nil, 0, "", "0", "09", "0", "1", "0", "10", "0", "100", "0", "2", "0", "20", "0")
	shown(t, "texts", x(1, 0), zones("b", "a.b", "ab", "a", "B", "a-b", "a/b"), nil, 0, "B", "0", "a", "0", "a-b", "0", "a.b", "0", "a/b", "0", "ab", "0", "b", "0")
}

// 9.1: a count's digits, of two and more of them.
func TestDigits(t *testing.T) {
	for _, n := range []int{9, 10, 11, 99, 100, 101, 1000, 12345} {
		shown(t, "digits", x(1, 0), zones("1", "2"), slices.Concat(many(n, zone("2")), many(7, zone("1"))), n-7, "1", "7", "2", strconv.Itoa(n))
	}
	// 10 is above 9, though not as a text.
	shown(t, "10, 9 and 2", x(1, 0), zones("1", "2", "3"), slices.Concat(many(10, zone("1")), many(9, zone("2")), many(2, zone("3"))), 8, "1", "10", "2", "9", "3", "2")
}

// 9.1: what is placed without a domain of the key, or in one that no node has, counts nowhere: not as the greatest one, not as the least one.
func TestPlacedElsewhere(t *testing.T) {
	nodes := zones("1", "2")
	base := slices.Concat(many(2, zone("1")), many(3, zone("2")))
	for what, more := range map[string][]api.Placed{
		"no labels": many(9, nil), "no such key": many(9, labels("rack", "1")), "a domain that no node has": many(9, zone("3")),
		"one of a domain that no node has": many(1, zone("3")), "an empty value": many(9, zone("")), "a key behind it": many(9, labels("zone", "3", "zone", "1")),
	} {
		shown(t, what, x(1, 0), nodes, slices.Concat(more, base), 1, "1", "2", "2", "3")
		shown(t, what, x(1, 0), nodes, slices.Concat(base, more), 1, "1", "2", "2", "3")
	}
}

// 9.1: who does not meet the Reqs does not count; all of what is asked is asked of one and the same pod, of its own labels.
func TestWhoMeets(t *testing.T) {
	nodes := zones("1", "2")
	placed := []api.Placed{
		at("a", "x", zone("1")), at("b", "y", zone("1")), {Pod: api.Pod{Name: "c"}, Labels: zone("1")}, {Pod: api.Pod{Name: "d"}, Labels: labels("app", "x", "zone", "1")},
		{Pod: api.Pod{Name: "e", Labels: labels("app", "x", "tier", "1")}, Labels: zone("1")}, {Pod: api.Pod{Name: "f", Labels: labels("tier", "1")}, Labels: zone("1")},
		{Pod: api.Pod{Name: "g", Labels: labels("app", "y", "app", "x")}, Labels: zone("1")},
	}
	of := func(reqs ...api.Req) api.Spread { return api.Spread{Key: "zone", Reqs: reqs} }
	in := app("x")[0]
	shown(t, "app x", of(in), nodes, placed, 2, "1", "2", "2", "0")
	shown(t, "app x with a tier", of(in, api.Req{Key: "tier", Op: api.OpExists}), nodes, placed, 1, "1", "1", "2", "0")
	shown(t, "app x without a tier", of(api.Req{Key: "tier", Op: api.OpLacks}, in), nodes, placed, 1, "1", "1", "2", "0")
	shown(t, "not app x", of(api.Req{Key: "app", Op: api.OpNotIn, Values: []string{"x"}}), nodes, placed, 5, "1", "5", "2", "0")
	shown(t, "a tier above 0", of(api.Req{Key: "tier", Op: api.OpAbove, Values: []string{"0"}}), nodes, placed[:4], 0, "1", "0", "2", "0")
	shown(t, "nothing", of(), nodes, placed, 7, "1", "7", "2", "0")
	shown(t, "nothing, an empty list", api.Spread{Key: "zone", Reqs: []api.Req{}}, nodes, placed, 7, "1", "7", "2", "0")
	shown(t, "an Op that there is not", of(api.Req{Key: "app", Op: 9}), nodes, placed, 0, "1", "0", "2", "0")
	shown(t, "the nodes' key", of(api.Req{Key: "zone", Op: api.OpExists}), nodes, placed, 0, "1", "0", "2", "0")
}

// 9.1: all that is placed counts, whatever its name: several of one name, of no name, bound or not.
func TestAllNamesCount(t *testing.T) {
	placed := []api.Placed{at("p", "x", zone("1")), at("p", "x", zone("1")), at("", "x", zone("1")), at("a", "x", zone("2"))}
	placed[3].Pod.Node = ""
	shown(t, "all names", x(1, 0), zones("1", "2"), placed, 2, "1", "3", "2", "1")
	shown(t, "no names", api.Spread{Key: "zone"}, zones("1"), []api.Placed{{Labels: zone("1")}, {Labels: zone("1")}}, 0, "1", "2")
}

// 9.1: neither Least nor Skew counts.
func TestLeastDoesNotCount(t *testing.T) {
	numbers := []int{math.MinInt, -1, 0, 1, 2, 3, 4, math.MaxInt}
	for _, skew := range numbers {
		for _, least := range numbers {
			shown(t, "numbers", x(skew, least), zones("1", "2", "3"), slices.Concat(many(5, zone("1")), many(2, zone("2")), many(3, zone("3"))), 3, "1", "5", "2", "2", "3", "3")
		}
	}
}

// 9.1: random ones, held against the words.
func TestRandomCounts(t *testing.T) {
	r := rand.New(rand.NewSource(91))
	skewed, several := 0, 0
	for range 20000 {
		s, nodes, placed := randomSpread(r), randomNodes(r, 6), randomPlaced(r, 8)
		least, greatest := boundsByWords(s, nodes, placed)
		want := countsByWords(s, nodes, placed)
		if got := spread.Counts(s, nodes, placed); !slices.Equal(got, want) {
			t.Fatalf("Counts(%+v, %+v, %+v): %v, want %v", s, nodes, placed, got, want)
		}
		if got := spread.Skew(s, nodes, placed); got != greatest-least {
			t.Fatalf("Skew(%+v, %+v, %+v): %d, want %d", s, nodes, placed, got, greatest-least)
		}
		if greatest > least && least > 0 {
			skewed++
		}
		if len(want) > 2 {
			several++
		}
	}
	if skewed < 100 || several < 1000 {
		t.Errorf("drawn: %d %d", skewed, several)
	}
}

// Rule 4: what is answered is the caller's own: writing into it changes no later answer, nor what was handed in.
func TestAnswersAreOwn(t *testing.T) {
	nodes, placed := zones("1", "2"), many(2, zone("1"))
	first := spread.Counts(x(1, 0), nodes, placed)
	for k := range first {
		first[k] = api.Label{Key: "spoilt", Value: "spoilt"}
	}
	_ = append(first, api.Label{Key: "more"})
	shown(t, "afterwards", x(1, 0), nodes, placed, 2, "1", "2", "2", "0")
}
