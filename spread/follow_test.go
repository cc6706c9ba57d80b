package spread_test

import (
	"math"
	"math/rand"
	"reflect"
	"slices"
	"strconv"
	"testing"

	"stevedore/api"
	"stevedore/spread"
)

// 9.3: pods that come one behind the other, wherever they may, never make Skew greater than the spread's.
func TestSkewStaysWithin(t *testing.T) {
	r := rand.New(rand.NewSource(93))
	for skew := 1; skew <= 3; skew++ {
		s, nodes := x(skew, 0), zones("1", "2", "10", "9", "1")
		var placed []api.Placed
		greatest := 0
		for k := range 200 {
			p := pod(s)
			p.Name = "p" + strconv.Itoa(k)
			where := oneOf(r, nodes).Labels
			if spread.Check(p, where, nodes, placed) == 0 {
				placed = append(placed, api.Placed{Pod: p, Labels: where})
			}
			got := spread.Skew(s, nodes, placed)
			if got > skew {
				t.Fatalf("Skew %d: %d behind %d", skew, got, k)
			}
			greatest = max(greatest, got)
		}
		if len(placed) < 50 || greatest != skew {
			t.Errorf("Skew %d: %d came, at most %d", skew, len(placed), greatest)
		}
	}
}

// 9.3: random ones: behind a pod that may come Skew is at most the greater of what it was and the spread's.
func TestRandomSkewBehind(t *testing.T) {
	r := rand.New(rand.NewSource(931))
	came, grew, stayed := 0, 0, 0
	for range 60000 {
		p, nodes, placed := randomPod(r, "new", 2), randomNodes(r, 6), randomPlaced(r, 8)
		if len(nodes) == 0 {
			continue
		}
		for k := range p.Spreads {
			p.Spreads[k].Least = 0
		}
		where := oneOf(r, nodes).Labels
		if spread.Check(p, where, nodes, placed) != 0 {
			continue
		}
		behind := append(slices.Clone(placed), api.Placed{Pod: p, Labels: where})
		for _, s := range p.Spreads {
			if !meets(p.Labels, s.Reqs) {
				continue
			}
			was, is := spread.Skew(s, nodes, placed), spread.Skew(s, nodes, behind)
			if is > max(was, s.Skew) {
				t.Fatalf("%+v to %v, %+v, %+v: %d, was %d", s, where, nodes, placed, is, was)
			}
			came++
			if is > was {
				grew++
			}
			if was > s.Skew {
				stayed++
			}
		}
	}
	if came < 3000 || grew < 300 || stayed < 100 {
		t.Errorf("drawn: %d %d %d", came, grew, stayed)
	}
}

// 9.4: to a domain of the least count a pod may always come.
func TestToTheLeastOne(t *testing.T) {
	nodes := zones("1", "2", "3")
	placed := slices.Concat(many(9, zone("1")), many(2, zone("2")), many(10, zone("3")))
	for _, least := range []int{math.MinInt, -1, 0, 1, 2, 3} {
		for _, skew := range []int{1, 2, math.MaxInt} {
			told(t, "it meets", pod(x(skew, least)), zone("2"), nodes, placed, 0)
			told(t, "it does not", other(x(skew, least)), zone("2"), nodes, placed, 0)
		}
		told(t, "to a greater one", pod(x(7, least)), zone("1"), nodes, placed, api.WhySpread)
	}
	// Neither more domains asked for than there are, nor a Skew of 0.
	told(t, "Least 4", pod(x(1, 4)), zone("2"), nodes, placed, api.WhySpread)
	told(t, "Skew 0", pod(x(0, 0)), zone("2"), nodes, placed, api.WhySpread)
}

// 9.4: random ones; there is such a domain, wherever there is one at all.
func TestRandomToTheLeastOne(t *testing.T) {
	r := rand.New(rand.NewSource(94))
	asked, added := 0, 0
	for range 20000 {
		s, nodes, placed := randomSpread(r), randomNodes(r, 6), randomPlaced(r, 12)
		domains := domainsByWords(s, nodes)
		s.Skew, s.Least = oneOf(r, []int{1, 2, math.MaxInt}), min(s.Least, len(domains))
		p := api.Pod{Name: "new", Labels: oneOf(r, podLabels()), Spreads: []api.Spread{s}}
		least, _ := boundsByWords(s, nodes, placed)
		for _, l := range spread.Counts(s, nodes, placed) {
			if l.Value != strconv.Itoa(least) {
				continue
			}
			asked++
			if least > 0 {
				added++
			}
			if got := spread.Check(p, labels(s.Key, l.Key), nodes, placed); got != 0 {
				t.Fatalf("Check(%+v, %s, %+v, %+v): %d", p, l.Key, nodes, placed, got)
			}
		}
	}
	if asked < 10000 || added < 500 {
		t.Errorf("drawn: %d %d", asked, added)
	}
}

// orders is l in each order.
func orders[T any](l []T) [][]T {
	if len(l) == 0 {
		return [][]T{nil}
	}
	var out [][]T
	for k, x := range l {
		for _, rest := range orders(slices.Delete(slices.Clone(l), k, k+1)) {
			out = append(out, append([]T{x}, rest...))
		}
	}
	return out
}

// 9.5: the order of nodes and of what is placed does not count: each order, names that stand twice among them.
func TestEachOrder(t *testing.T) {
	nodes := []api.Node{{Name: "n", Labels: zone("10")}, {Name: "n", Labels: zone("9")}, {Name: "m", Labels: zone("1")}, {Name: "x"}}
	l := []api.Placed{at("a", "x", zone("9")), at("a", "x", zone("10")), at("p", "x", zone("1")), at("b", "y", zone("1")), at("c", "x", zone("9"))}
	for _, nodes := range orders(nodes) {
		for _, placed := range orders(l) {
			shown(t, "an order", x(1, 0), nodes, placed, 1, "1", "1", "10", "1", "9", "2")
			told(t, "to 1", pod(x(1, 3)), zone("1"), nodes, placed, 0)
			told(t, "to 10", pod(x(1, 3)), zone("10"), nodes, placed, api.WhySpread)
			told(t, "to 9", pod(x(2, 3)), zone("9"), nodes, placed, api.WhySpread)
			told(t, "to none", pod(x(2, 3)), nil, nodes, placed, api.WhySpread)
		}
	}
}

// 9.5: random orders.
func TestRandomOrders(t *testing.T) {
	r := rand.New(rand.NewSource(95))
	for range 3000 {
		p, nodes, placed := randomPod(r, "p", 3), randomNodes(r, 6), randomPlaced(r, 8)
		mixedNodes, mixedPlaced := slices.Clone(nodes), slices.Clone(placed)
		r.Shuffle(len(nodes), func(a, b int) { mixedNodes[a], mixedNodes[b] = mixedNodes[b], mixedNodes[a] })
		r.Shuffle(len(placed), func(a, b int) { mixedPlaced[a], mixedPlaced[b] = mixedPlaced[b], mixedPlaced[a] })
		for _, where := range labelLists() {
			if got, want := spread.Check(p, where, mixedNodes, mixedPlaced), spread.Check(p, where, nodes, placed); got != want {
				t.Fatalf("Check(%+v, %v, %+v, %+v): %d, want %d", p, where, mixedNodes, mixedPlaced, got, want)
			}
		}
		for _, s := range p.Spreads {
			if got, want := spread.Counts(s, mixedNodes, mixedPlaced), spread.Counts(s, nodes, placed); !slices.Equal(got, want) {
				t.Fatalf("Counts(%+v, %+v, %+v): %v, want %v", s, mixedNodes, mixedPlaced, got, want)
			}
			if got, want := spread.Skew(s, mixedNodes, mixedPlaced), spread.Skew(s, nodes, placed); got != want {
				t.Fatalf("Skew(%+v, %+v, %+v): %d, want %d", s, mixedNodes, mixedPlaced, got, want)
			}
		}
	}
}

// Rule 4: what is handed in stays as it was, not even what stands behind a list's end is changed.
func TestHandedInStays(t *testing.T) {
	r := rand.New(rand.NewSource(96))
	for range 1000 {
		p, where, nodes, placed := randomPod(r, "p", 3), oneOf(r, labelLists()), randomNodes(r, 5), randomPlaced(r, 5)
		p.Labels, p.Spreads = roomy(p.Labels, api.Label{Key: "behind"}), roomy(append(p.Spreads, x(1, 2)), api.Spread{Key: "behind"})
		where, nodes, placed = roomy(where, api.Label{Key: "behind"}), roomy(nodes, api.Node{Name: "behind"}), roomy(placed, at("behind", "x", zone("1")))
		now := struct {
			P      api.Pod
			Where  []api.Label
			Nodes  []api.Node
			Placed []api.Placed
		}{p, where, nodes, placed}
		was := opened(now)
		spread.Check(p, where, nodes, placed)
		for _, s := range p.Spreads {
			spread.Counts(s, nodes, placed)
			spread.Skew(s, nodes, placed)
		}
		if got := opened(now); !reflect.DeepEqual(got, was) {
			t.Fatalf("changed: %+v, was %+v", got, was)
		}
	}
}

// P1: no call panics, and each ends, whatever is handed in, of many members, too.
func TestManyMembers(t *testing.T) {
	l := make([]api.Label, 20000)
	for k := range l {
		l[k] = api.Label{Key: "k" + strconv.Itoa(k), Value: "v"}
	}
	s := api.Spread{Key: l[len(l)-1].Key, Skew: 1, Reqs: []api.Req{{Key: l[len(l)-2].Key, Op: api.OpExists}}}
	one := api.Placed{Pod: api.Pod{Name: "a", Labels: l}, Labels: l}
	shown(t, "many labels", s, having(l), []api.Placed{one, one}, 0, "v", "2")
	told(t, "many labels", api.Pod{Name: "p", Labels: l, Spreads: []api.Spread{s}}, l, having(l), []api.Placed{one, one}, 0)
	var values []string
	for k := range 3000 {
		values = append(values, strconv.Itoa(k))
	}
	shown(t, "nothing", api.Spread{}, nil, nil, 0)
	told(t, "nothing", api.Pod{}, nil, nil, nil, 0)
	told(t, "a spread of nothing", api.Pod{Spreads: make([]api.Spread, 3)}, nil, make([]api.Node, 3), make([]api.Placed, 3), api.WhySpread)
	told(t, "many domains", pod(x(1, 3000)), zone("2999"), zones(values...), many(3000, zone("2998")), 0)
	told(t, "many domains, one more", pod(x(1, 3001)), zone("2998"), zones(values...), many(1, zone("2998")), api.WhySpread)
	shown(t, "labels of nothing", api.Spread{}, []api.Node{{Labels: make([]api.Label, 2)}}, []api.Placed{{Labels: make([]api.Label, 2)}}, 0, "", "1")
	told(t, "labels of nothing", pod(api.Spread{}), make([]api.Label, 2), []api.Node{{Labels: make([]api.Label, 2)}}, []api.Placed{{Labels: make([]api.Label, 2)}}, api.WhySpread)
}
