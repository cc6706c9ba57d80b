package near_test

import (
	"fmt"
	"math/rand"
	"slices"
	"testing"

	"stevedore/api"
	"stevedore/near"
)

// 8.1, the chapter's example.
func TestExample(t *testing.T) {
	a := []api.Placed{at("a", "x", zone("1"))}
	p := api.Pod{Name: "p", Near: []api.Term{app("x", "zone")}}
	told(t, "near, zone 1", p, zone("1"), a, 0)
	told(t, "near, zone 2", p, zone("2"), a, api.WhyNear)
	p = api.Pod{Name: "p", Apart: []api.Term{app("x", "zone")}}
	told(t, "apart, zone 1", p, zone("1"), a, api.WhyApart)
	told(t, "apart, zone 2", p, zone("2"), a, 0)
}

// 8.1: none of the three, each alone, each two, all three: the first one in the chapter's order.
func TestEachSetOfReasons(t *testing.T) {
	order := []int{api.WhyNear, api.WhyApart, api.WhyOthers}
	for set := range 1 << len(order) {
		p := api.Pod{Name: "p", Labels: labels("app", "p"), Near: []api.Term{app("x", "zone")}, Apart: []api.Term{app("y", "rack")}}
		placed := []api.Placed{at("a", "x", zone("1")), at("b", "y", labels("rack", "2")), keeping(at("c", "z", labels("host", "3")), app("p", "host"))}
		where := labels("host", "0", "rack", "0", "zone", "1")
		want := 0
		for k, why := range order {
			if set&(1<<k) == 0 {
				continue
			}
			if want == 0 {
				want = why
			}
			where[2-k].Value = []string{"0", "2", "3"}[k]
		}
		told(t, fmt.Sprintf("the set %03b", set), p, where, placed, want)
	}
	if !slices.Equal(order, []int{9, 10, 11}) {
		t.Errorf("the reasons' numbers: %v", order)
	}
}

// 8.1: where nothing is placed only who wants others near is kept away, unless it is one of them.
func TestNothingPlaced(t *testing.T) {
	for _, where := range labelLists() {
		told(t, "no terms", api.Pod{Name: "p", Labels: labels("app", "x")}, where, nil, 0)
		told(t, "apart", api.Pod{Name: "p", Apart: []api.Term{app("x", "zone"), {Key: "rack"}}}, where, nil, 0)
		told(t, "nothing at all", api.Pod{}, where, nil, 0)
	}
	wants := api.Pod{Name: "p", Near: []api.Term{app("x", "zone")}}
	told(t, "near", wants, zone("1"), nil, api.WhyNear)
	told(t, "near, an empty list", wants, zone("1"), []api.Placed{}, api.WhyNear)
	wants.Labels = labels("app", "x")
	told(t, "one of them", wants, zone("1"), nil, 0)
	told(t, "one of them, an empty list", wants, zone("1"), []api.Placed{}, 0)
	told(t, "one of them, without a domain", wants, nil, nil, api.WhyNear)
	wants.Labels = labels("app", "y")
	told(t, "one of others", wants, zone("1"), nil, api.WhyNear)
}

// 8.1: the key that labels have or have not, with one value, another one, an empty one.
func TestDomains(t *testing.T) {
	for _, c := range []struct {
		what        string
		where, its  []api.Label
		key         string
		there, same bool
	}{
		{"one value", zone("1"), zone("1"), "zone", true, true},
		{"another value", zone("2"), zone("1"), "zone", true, false},
		{"a value that begins alike", zone("11"), zone("1"), "zone", true, false},
		{"the value of another key", labels("rack", "1", "zone", "2"), labels("rack", "2", "zone", "1"), "zone", true, false},
		{"both empty", zone(""), zone(""), "zone", true, true},
		{"here empty", zone(""), zone("1"), "zone", true, false},
		{"there empty", zone("1"), zone(""), "zone", true, false},
		{"no labels here", nil, zone("1"), "zone", false, false},
		{"no labels there", zone("1"), nil, "zone", true, false},
		{"no such key here", labels("rack", "1"), zone("1"), "zone", false, false},
		{"no such key there", zone("1"), labels("rack", "1"), "zone", true, false},
		{"no such key here, there empty", labels("rack", "1"), zone(""), "zone", false, false},
		{"no such key there, here empty", zone(""), labels("rack", "1"), "zone", true, false},
		{"no such key at all", zone("1"), zone("1"), "rack", false, false},
		{"an empty key", labels("", "1"), labels("", "1"), "", true, true},
		{"an empty key that is not there", zone("1"), zone("1"), "", false, false},
		{"among others", labels("a", "1", "zone", "1", "zz", "1"), labels("b", "2", "zone", "1", "zy", "1"), "zone", true, true},
		{"twice here, the first one alike", labels("zone", "1", "zone", "2"), zone("1"), "zone", true, true},
		{"twice here, the second one alike", labels("zone", "2", "zone", "1"), zone("1"), "zone", true, false},
		{"twice there, the first one alike", zone("1"), labels("zone", "1", "zone", "2"), "zone", true, true},
		{"twice there, the second one alike", zone("1"), labels("zone", "2", "zone", "1"), "zone", true, false},
		{"twice here and there, crossed", labels("zone", "1", "zone", "2"), labels("zone", "2", "zone", "1"), "zone", true, false},
		{"twice, an empty one first", labels("zone", "", "zone", "1"), labels("zone", "", "zone", "2"), "zone", true, true},
	} {
		term := []api.Term{app("x", c.key)}
		placed := []api.Placed{at("a", "x", c.its)}
		when := func(is bool, why int) int {
			if is {
				return why
			}
			return 0
		}
		told(t, c.what+", near", api.Pod{Name: "p", Near: term}, c.where, placed, when(!c.same, api.WhyNear))
		told(t, c.what+", apart", api.Pod{Name: "p", Apart: term}, c.where, placed, when(c.same, api.WhyApart))
		others := []api.Placed{keeping(at("a", "y", c.its), term...)}
		told(t, c.what+", others", api.Pod{Name: "p", Labels: labels("app", "x")}, c.where, others, when(c.same, api.WhyOthers))
		// Nobody has a domain of the key where nobody is placed: who is one of them itself may come wherever there is one.
		told(t, c.what+", alone", api.Pod{Name: "p", Labels: labels("app", "x"), Near: term}, c.where, nil, when(!c.there, api.WhyNear))
	}
}

// 8.1: one of several terms is against it: the first, a middle one, the last one, none.
func TestSeveralTerms(t *testing.T) {
	where := labels("host", "1", "rack", "1", "zone", "1")
	for k := range 4 {
		var wants, avoids, keeps []api.Term
		placed := []api.Placed{at("a", "x", where), at("b", "y", labels("host", "2", "rack", "2", "zone", "2"))}
		for i, key := range []string{"host", "rack", "zone"} {
			good, bad := app("x", key), app("y", key)
			if i == k {
				good, bad = bad, good
			}
			wants, avoids, keeps = append(wants, good), append(avoids, bad), append(keeps, bad)
		}
		why := func(is int) int {
			if k == 3 {
				return 0
			}
			return is
		}
		what := fmt.Sprintf("term %d", k)
		told(t, what+", near", api.Pod{Name: "p", Near: wants}, where, placed, why(api.WhyNear))
		told(t, what+", apart", api.Pod{Name: "p", Apart: avoids}, where, placed, why(api.WhyApart))
		told(t, what+", others", api.Pod{Name: "p", Labels: labels("app", "x")}, where, []api.Placed{keeping(at("c", "z", where), keeps...)}, why(api.WhyOthers))
		// The same by keys that are not there.
		if k < 3 {
			wants[k] = app("x", "none")
			told(t, what+", near, no such key", api.Pod{Name: "p", Near: wants}, where, placed, api.WhyNear)
			avoids[k] = app("x", "none")
			told(t, what+", apart, no such key", api.Pod{Name: "p", Apart: avoids}, where, placed, 0)
		}
	}
}

// 8.1: one of several that are placed is against it: the first, a middle one, the last one.
func TestSeveralPlaced(t *testing.T) {
	for k := range 3 {
		l := []api.Placed{at("a", "x", zone("2")), at("b", "y", zone("1")), at("c", "y", nil)}
		l = slices.Insert(l, k, at("d", "x", zone("1")))
		told(t, "near", api.Pod{Name: "p", Near: []api.Term{app("x", "zone")}}, zone("1"), l, 0)
		told(t, "apart", api.Pod{Name: "p", Apart: []api.Term{app("x", "zone")}}, zone("1"), l, api.WhyApart)
		l[k] = keeping(at("d", "z", zone("1")), app("p", "zone"))
		told(t, "others", api.Pod{Name: "p", Labels: labels("app", "p")}, zone("1"), l, api.WhyOthers)
		l[k] = at("d", "z", zone("1"))
		told(t, "near, none", api.Pod{Name: "p", Near: []api.Term{app("x", "zone")}}, zone("1"), l, api.WhyNear)
		told(t, "apart, none", api.Pod{Name: "p", Apart: []api.Term{app("x", "zone")}}, zone("1"), l, 0)
	}
}

// 8.1: a term that asks nothing is met by all, by the pod itself too.
func TestTermThatAsksNothing(t *testing.T) {
	for _, reqs := range [][]api.Req{nil, {}} {
		nothing := []api.Term{{Key: "zone", Reqs: reqs}}
		a := []api.Placed{{Pod: api.Pod{Name: "a"}, Labels: zone("1")}}
		told(t, "near", api.Pod{Name: "p", Near: nothing}, zone("1"), a, 0)
		told(t, "near, elsewhere", api.Pod{Name: "p", Near: nothing}, zone("2"), a, api.WhyNear)
		told(t, "near, nothing placed", api.Pod{Name: "p", Near: nothing}, zone("2"), nil, 0)
		told(t, "near, nothing placed, no domain", api.Pod{Name: "p", Near: nothing}, labels("rack", "1"), nil, api.WhyNear)
		told(t, "apart", api.Pod{Name: "p", Apart: nothing}, zone("1"), a, api.WhyApart)
		told(t, "apart, elsewhere", api.Pod{Name: "p", Apart: nothing}, zone("2"), a, 0)
		a[0].Pod.Apart = nothing
		told(t, "others", api.Pod{Name: "p"}, zone("1"), a, api.WhyOthers)
		told(t, "others, elsewhere", api.Pod{Name: "p"}, zone("2"), a, 0)
	}
}

// 8.1: all of what a term asks is asked of one and the same pod.
func TestAllThatATermAsks(t *testing.T) {
	both := []api.Term{{Key: "zone", Reqs: []api.Req{{Key: "app", Op: api.OpIn, Values: []string{"x"}}, {Key: "tier", Op: api.OpExists}}}}
	halves := []api.Placed{at("a", "x", zone("1")), {Pod: api.Pod{Name: "b", Labels: labels("tier", "1")}, Labels: zone("1")}}
	whole := append(slices.Clone(halves), api.Placed{Pod: api.Pod{Name: "c", Labels: labels("app", "x", "tier", "1")}, Labels: zone("1")})
	told(t, "near, halves", api.Pod{Name: "p", Near: both}, zone("1"), halves, api.WhyNear)
	told(t, "near, whole", api.Pod{Name: "p", Near: both}, zone("1"), whole, 0)
	told(t, "apart, halves", api.Pod{Name: "p", Apart: both}, zone("1"), halves, 0)
	told(t, "apart, whole", api.Pod{Name: "p", Apart: both}, zone("1"), whole, api.WhyApart)
	keeps := []api.Placed{keeping(at("a", "z", zone("1")), both...)}
	told(t, "others, half", api.Pod{Name: "p", Labels: labels("app", "x")}, zone("1"), keeps, 0)
	told(t, "others, whole", api.Pod{Name: "p", Labels: labels("app", "x", "tier", "2")}, zone("1"), keeps, api.WhyOthers)
	told(t, "near, half of it the pod's own", api.Pod{Name: "p", Labels: labels("app", "x"), Near: both}, zone("1"), nil, api.WhyNear)
}

// 8.1: what the terms ask is asked of pods' labels, and not of nodes'.
func TestPodsLabelsAreAsked(t *testing.T) {
	where := labels("app", "x", "zone", "1")
	bare := []api.Placed{{Pod: api.Pod{Name: "a"}, Labels: where}}
	told(t, "near", api.Pod{Name: "p", Near: []api.Term{app("x", "zone")}}, where, bare, api.WhyNear)
	told(t, "apart", api.Pod{Name: "p", Apart: []api.Term{app("x", "zone")}}, where, bare, 0)
	told(t, "others", api.Pod{Name: "p"}, where, []api.Placed{keeping(bare[0], app("x", "zone"))}, 0)
	// And domains are the nodes', not the pods'.
	in := []api.Placed{{Pod: api.Pod{Name: "a", Labels: labels("app", "x", "zone", "1")}, Labels: labels("rack", "1")}}
	told(t, "the pod's zone", api.Pod{Name: "p", Labels: labels("zone", "1"), Apart: []api.Term{app("x", "zone")}}, zone("1"), in, 0)
	told(t, "the pod's zone, near", api.Pod{Name: "p", Labels: labels("zone", "1"), Near: []api.Term{app("x", "zone")}}, zone("1"), in, api.WhyNear)
}

// 8.1: of a key that stands twice in a pod's labels the first one counts.
func TestPodsLabelsTwice(t *testing.T) {
	xy, yx := labels("app", "x", "app", "y"), labels("app", "y", "app", "x")
	x := []api.Term{app("x", "zone")}
	for _, c := range []struct {
		its []api.Label
		is  bool
	}{{xy, true}, {yx, false}} {
		placed := []api.Placed{{Pod: api.Pod{Name: "a", Labels: c.its}, Labels: zone("1")}}
		keeps := []api.Placed{keeping(at("a", "z", zone("1")), x...)}
		wantNear, wantApart, wantOthers := api.WhyNear, 0, 0
		if c.is {
			wantNear, wantApart, wantOthers = 0, api.WhyApart, api.WhyOthers
		}
		told(t, "near", api.Pod{Name: "p", Near: x}, zone("1"), placed, wantNear)
		told(t, "near, its own", api.Pod{Name: "p", Labels: c.its, Near: x}, zone("1"), nil, wantNear)
		told(t, "apart", api.Pod{Name: "p", Apart: x}, zone("1"), placed, wantApart)
		told(t, "others", api.Pod{Name: "p", Labels: c.its}, zone("1"), keeps, wantOthers)
	}
}

// 8.1: what is placed that meets a term, and has no domain of its key, is nowhere.
func TestPlacedWithoutDomain(t *testing.T) {
	x := []api.Term{app("x", "zone")}
	bare := []api.Placed{at("a", "x", nil), at("b", "x", labels("rack", "1"))}
	told(t, "near, none of them", api.Pod{Name: "p", Near: x}, zone("1"), bare, api.WhyNear)
	told(t, "near, one of them", api.Pod{Name: "p", Labels: labels("app", "x"), Near: x}, zone("1"), bare, 0)
	told(t, "near, one of them, without a domain", api.Pod{Name: "p", Labels: labels("app", "x"), Near: x}, labels("rack", "1"), bare, api.WhyNear)
	told(t, "apart", api.Pod{Name: "p", Apart: x}, zone("1"), bare, 0)
	told(t, "apart, both without", api.Pod{Name: "p", Apart: x}, labels("rack", "1"), bare, 0)
	told(t, "others", api.Pod{Name: "p", Labels: labels("app", "x")}, zone("1"), []api.Placed{keeping(bare[0], x...), keeping(bare[1], x...)}, 0)
	told(t, "others, both without", api.Pod{Name: "p", Labels: labels("app", "x")}, nil, []api.Placed{keeping(bare[0], x...)}, 0)
}

// 8.1: who is one of those that it wants near may be the first one, and only the first one that has a domain of the key.
func TestFirstOne(t *testing.T) {
	x := []api.Term{app("x", "zone")}
	one, none := api.Pod{Name: "p", Labels: labels("app", "x"), Near: x}, api.Pod{Name: "p", Labels: labels("app", "y"), Near: x}
	for _, c := range []struct {
		what   string
		placed []api.Placed
		open   bool // nothing is anywhere
		beside bool
	}{
		{"nothing", nil, true, false},
		{"others beside it", []api.Placed{at("a", "y", zone("1"))}, true, false},
		{"others elsewhere", []api.Placed{at("a", "y", zone("2"))}, true, false},
		{"one of them without a domain", []api.Placed{at("a", "x", labels("rack", "1"))}, true, false},
		{"one of them elsewhere", []api.Placed{at("a", "x", zone("2"))}, false, false},
		{"one of them in an empty domain", []api.Placed{at("a", "x", zone(""))}, false, false},
		{"one of them beside it", []api.Placed{at("a", "x", zone("1"))}, false, true},
		{"one elsewhere, one without", []api.Placed{at("a", "x", nil), at("b", "x", zone("2"))}, false, false},
		{"one beside it, one elsewhere", []api.Placed{at("a", "x", zone("2")), at("b", "x", zone("1"))}, false, true},
	} {
		want := map[bool]int{true: 0, false: api.WhyNear}
		told(t, c.what+", one of them", one, zone("1"), c.placed, want[c.open || c.beside])
		told(t, c.what+", none of them", none, zone("1"), c.placed, want[c.beside])
		told(t, c.what+", no domain", one, labels("rack", "1"), c.placed, api.WhyNear)
		// That is so for each term of its own: one that is met does not open another one.
		two := one
		two.Near = []api.Term{app("x", "zone"), app("y", "zone")}
		told(t, c.what+", two terms", two, zone("1"), c.placed, whyByWords(two, zone("1"), c.placed))
	}
	two := api.Pod{Name: "p", Labels: labels("app", "x"), Near: []api.Term{app("x", "zone"), app("y", "zone")}}
	told(t, "the second term lacks", two, zone("1"), nil, api.WhyNear)
	told(t, "the second term is met", two, zone("1"), []api.Placed{at("a", "y", zone("1"))}, 0)
	// One of them in a domain of another key closes nothing.
	two.Near = []api.Term{app("x", "zone"), app("x", "rack")}
	told(t, "two keys", two, labels("rack", "1", "zone", "1"), []api.Placed{at("a", "x", zone("1"))}, 0)
	told(t, "two keys, the other zone", two, labels("rack", "1", "zone", "2"), []api.Placed{at("a", "x", zone("1"))}, api.WhyNear)
}

// 8.1: the unless is Near's alone: who meets its own term Apart may come where nobody is, and not where one is.
func TestApartFromItsLike(t *testing.T) {
	p := api.Pod{Name: "p", Labels: labels("app", "x"), Apart: []api.Term{app("x", "zone")}}
	told(t, "nobody", p, zone("1"), nil, 0)
	told(t, "one elsewhere", p, zone("1"), []api.Placed{at("a", "x", zone("2"))}, 0)
	told(t, "one here", p, zone("1"), []api.Placed{at("a", "x", zone("1"))}, api.WhyApart)
	told(t, "no domain", p, nil, []api.Placed{at("a", "x", zone("1"))}, 0)
}

// 8.1: something of the pod's own name that is placed does not count, alone and among others.
func TestOwnName(t *testing.T) {
	x := []api.Term{app("x", "zone")}
	its := keeping(at("p", "x", zone("1")), app("x", "zone"), app("y", "zone"))
	for _, name := range []string{"p", ""} {
		its.Pod.Name = name
		elsewhere := its
		elsewhere.Labels = zone("2")
		alone := []api.Placed{its}
		told(t, "near, alone", api.Pod{Name: name, Near: x}, zone("1"), alone, api.WhyNear)
		told(t, "near, alone, one of them", api.Pod{Name: name, Labels: labels("app", "x"), Near: x}, zone("1"), []api.Placed{elsewhere}, 0)
		told(t, "apart, alone", api.Pod{Name: name, Apart: x}, zone("1"), alone, 0)
		told(t, "others, alone", api.Pod{Name: name, Labels: labels("app", "x")}, zone("1"), alone, 0)
		among := []api.Placed{at("a", "y", zone("1")), its, at("b", "x", zone("2")), its}
		told(t, "near, among others", api.Pod{Name: name, Near: x}, zone("1"), among, api.WhyNear)
		told(t, "near, among others, met", api.Pod{Name: name, Near: x}, zone("2"), among, 0)
		told(t, "apart, among others", api.Pod{Name: name, Apart: x}, zone("1"), among, 0)
		told(t, "apart, among others, one there", api.Pod{Name: name, Apart: x}, zone("2"), among, api.WhyApart)
		among = append(among, keeping(at("c", "z", zone("3")), x...))
		told(t, "others, among others", api.Pod{Name: name, Labels: labels("app", "x")}, zone("1"), among, 0)
		told(t, "others, among others, one there", api.Pod{Name: name, Labels: labels("app", "x")}, zone("3"), among, api.WhyOthers)
	}
	// A name that only begins alike is another one's.
	told(t, "pp", api.Pod{Name: "p", Apart: x}, zone("1"), []api.Placed{at("pp", "x", zone("1"))}, api.WhyApart)
	told(t, "no name", api.Pod{Name: "p", Apart: x}, zone("1"), []api.Placed{at("", "x", zone("1"))}, api.WhyApart)
}

// 8.1: several of one other name count all.
func TestOthersOfOneName(t *testing.T) {
	l := []api.Placed{at("a", "y", zone("1")), at("a", "x", zone("2")), at("a", "x", zone("1"))}
	told(t, "near", api.Pod{Name: "p", Near: []api.Term{app("x", "zone")}}, zone("1"), l, 0)
	told(t, "apart", api.Pod{Name: "p", Apart: []api.Term{app("x", "zone")}}, zone("2"), l, api.WhyApart)
}

// 8.1: terms Apart of what is placed, whose Reqs the pod's labels meet, and do not.
func TestOthers(t *testing.T) {
	for _, c := range []struct {
		what  string
		its   []api.Label
		terms []api.Term
		kept  bool
	}{
		{"none", labels("app", "x"), nil, false},
		{"met", labels("app", "x"), []api.Term{app("x", "zone")}, true},
		{"not met", labels("app", "y"), []api.Term{app("x", "zone")}, false},
		{"no labels", nil, []api.Term{app("x", "zone")}, false},
		{"met by no labels", nil, []api.Term{{Key: "zone", Reqs: []api.Req{{Key: "app", Op: api.OpLacks}}}}, true},
		{"an Op that there is not", labels("app", "x"), []api.Term{{Key: "zone", Reqs: []api.Req{{Key: "app", Op: 7}}}}, false},
		{"met in another key", labels("app", "x"), []api.Term{app("x", "rack")}, false},
		{"the second met", labels("app", "x"), []api.Term{app("y", "zone"), app("x", "zone")}, true},
		{"met in another key, not met here", labels("app", "x"), []api.Term{app("x", "rack"), app("y", "zone")}, false},
		{"met twice", labels("app", "x"), []api.Term{app("x", "zone"), app("x", "zone")}, true},
	} {
		why := map[bool]int{true: api.WhyOthers}[c.kept]
		told(t, c.what, api.Pod{Name: "p", Labels: c.its}, labels("rack", "2", "zone", "1"), []api.Placed{keeping(at("a", "z", labels("rack", "1", "zone", "1")), c.terms...)}, why)
		told(t, c.what+", elsewhere", api.Pod{Name: "p", Labels: c.its}, labels("rack", "2", "zone", "2"), []api.Placed{keeping(at("a", "z", labels("rack", "1", "zone", "1")), c.terms...)}, 0)
	}
}

// 8.1: what others want near, and what they spread or ask, is their own matter.
func TestOthersWishesNear(t *testing.T) {
	x := at("a", "z", zone("1"))
	x.Pod.Near = []api.Term{app("none", "zone"), app("p", "rack")}
	x.Pod.Asks = []api.Req{{Key: "none", Op: api.OpExists}}
	x.Pod.Spreads = []api.Spread{{Key: "zone", Skew: 1}}
	for _, where := range labelLists() {
		told(t, "others' wishes", api.Pod{Name: "p", Labels: labels("app", "p")}, where, []api.Placed{x}, 0)
		told(t, "its own", api.Pod{Name: "p", Asks: x.Pod.Asks, Spreads: x.Pod.Spreads, Node: "n", Hope: "m"}, where, []api.Placed{x}, 0)
	}
}

// 8.1: where the pod or what is placed is bound does not count, but the labels alone.
func TestNodesNamesDoNotCount(t *testing.T) {
	for _, node := range []string{"", "n", "m"} {
		x := at("a", "x", zone("1"))
		x.Pod.Node = node
		told(t, "apart", api.Pod{Name: "p", Node: "n", Apart: []api.Term{app("x", "zone")}}, zone("1"), []api.Placed{x}, api.WhyApart)
		told(t, "near", api.Pod{Name: "p", Node: "n", Near: []api.Term{app("x", "zone")}}, zone("2"), []api.Placed{x}, api.WhyNear)
	}
}

// 8.1: random pods, held against the words.
func TestRandomChecks(t *testing.T) {
	r := rand.New(rand.NewSource(81))
	sets := map[string]int{}
	for range 30000 {
		p, where, placed := randomPod(r, "p", r.Intn(3)), oneOf(r, labelLists()), randomPlaced(r, 5)
		all := allByWords(p, where, placed)
		want := append(slices.Clone(all), 0)[0]
		if got := near.Check(p, where, placed); got != want {
			t.Fatalf("Check(%+v, %v, %+v): %d, want %d", p, where, placed, got, want)
		}
		if got, e := near.New(p, placed...).Check(where); got != want || e != api.OK {
			t.Fatalf("New(%+v, %+v).Check(%v): %d %d, want %d", p, placed, where, got, e, want)
		}
		sets[fmt.Sprint(all)]++
	}
	if len(sets) != 8 {
		t.Errorf("drawn: %v", sets)
	}
	for _, n := range sets {
		if n < 30 {
			t.Errorf("drawn: %v", sets)
		}
	}
}
