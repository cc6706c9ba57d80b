package near_test

import (
	"math/rand"
	"reflect"
	"slices"
	"strconv"
	"testing"

	"stevedore/api"
	"stevedore/near"
)

// orders is l in each order.
func orders(l []api.Placed) [][]api.Placed {
	if len(l) == 0 {
		return [][]api.Placed{nil}
	}
	var out [][]api.Placed
	for k, x := range l {
		for _, rest := range orders(slices.Delete(slices.Clone(l), k, k+1)) {
			out = append(out, append([]api.Placed{x}, rest...))
		}
	}
	return out
}

// 8.4: the order of what is placed does not count: each order.
func TestEachOrder(t *testing.T) {
	p := api.Pod{Name: "p", Labels: labels("app", "x"), Near: []api.Term{app("x", "zone")}, Apart: []api.Term{app("y", "zone")}}
	l := []api.Placed{
		at("a", "x", zone("1")), at("b", "x", nil), at("c", "y", zone("2")), keeping(at("d", "z", zone("3")), app("x", "zone")), at("p", "x", zone("4")),
	}
	for _, c := range []struct {
		where []api.Label
		want  int
	}{{zone("1"), 0}, {zone("2"), api.WhyNear}, {nil, api.WhyNear}} {
		for _, placed := range orders(l) {
			told(t, "an order", p, c.where, placed, c.want)
		}
	}
	p.Near = nil
	for _, placed := range orders(l) {
		told(t, "apart", p, zone("2"), placed, api.WhyApart)
		told(t, "others", p, zone("3"), placed, api.WhyOthers)
	}
}

// 8.4: random ones, at once and by tables that are told in other orders, and drop in others still.
func TestRandomOrders(t *testing.T) {
	r := rand.New(rand.NewSource(84))
	mix := func(l []api.Placed) { r.Shuffle(len(l), func(a, b int) { l[a], l[b] = l[b], l[a] }) }
	for range 3000 {
		p, placed, more := randomPod(r, "p", 2), randomPlaced(r, 6), randomPlaced(r, 4)
		first := slices.Clone(placed)
		mix(placed)
		all := slices.Concat(placed, more)
		mix(all)
		x := near.New(p, all...)
		mix(more)
		for _, y := range more {
			does(t, "Drop", x.Drop(y), api.OK)
		}
		for _, where := range labelLists() {
			want := near.Check(p, where, first)
			if got := near.Check(p, where, placed); got != want {
				t.Fatalf("Check(%+v, %v, %+v): %d, want %d", p, where, placed, got, want)
			}
			tells(t, "a table", x, where, want)
		}
	}
}

// 8.5: who wants nothing, where nobody keeps apart, may come anywhere.
func TestWhoWantsNothing(t *testing.T) {
	r := rand.New(rand.NewSource(85))
	for range 3000 {
		p, placed := randomPod(r, "p", 0), randomPlaced(r, 6)
		for k := range placed {
			placed[k].Pod.Apart = nil
		}
		x := near.New(p, placed...)
		for _, where := range labelLists() {
			if got := near.Check(p, where, placed); got != 0 {
				t.Fatalf("Check(%+v, %v, %+v): %d", p, where, placed, got)
			}
			tells(t, "a table", x, where, 0)
		}
	}
}

// 8.6: if one keeps apart from another one, the other one may not come to where it is.
func TestBothWays(t *testing.T) {
	a := api.Pod{Name: "a", Labels: labels("app", "x")}
	q := api.Pod{Name: "q", Labels: labels("app", "q"), Apart: []api.Term{app("x", "zone")}}
	told(t, "q to a", q, zone("1"), []api.Placed{{Pod: a, Labels: zone("1")}}, api.WhyApart)
	told(t, "a to q", a, zone("1"), []api.Placed{{Pod: q, Labels: zone("1")}}, api.WhyOthers)
	told(t, "q elsewhere", q, zone("2"), []api.Placed{{Pod: a, Labels: zone("1")}}, 0)
	told(t, "a elsewhere", a, zone("2"), []api.Placed{{Pod: q, Labels: zone("1")}}, 0)
}

// 8.6: random pairs, each the one and the other, among others, too.
func TestRandomBothWays(t *testing.T) {
	r := rand.New(rand.NewSource(86))
	kept := 0
	for range 20000 {
		a, q := randomPod(r, "a", 1), randomPod(r, "q", 2)
		here, there := oneOf(r, labelLists()), oneOf(r, labelLists())
		a.Apart, q.Near = nil, nil
		wants := a.Near
		a.Near = nil
		one := near.Check(q, here, []api.Placed{{Pod: a, Labels: there}})
		other := near.Check(a, there, []api.Placed{{Pod: q, Labels: here}})
		if (one == api.WhyApart) != (other == api.WhyOthers) || one != 0 && one != api.WhyApart || other != 0 && other != api.WhyOthers {
			t.Fatalf("%+v at %v, %+v at %v: %d %d", a, there, q, here, one, other)
		}
		if one == 0 {
			continue
		}
		kept++
		a.Near, a.Apart = wants, terms(r, 1)
		l := append(randomPlaced(r, 4), api.Placed{Pod: q, Labels: here})
		r.Shuffle(len(l), func(i, j int) { l[i], l[j] = l[j], l[i] })
		if got := near.Check(a, there, l); got == 0 {
			t.Fatalf("%+v may come to %v beside %+v", a, there, l)
		}
	}
	if kept < 500 {
		t.Errorf("drawn: %d", kept)
	}
}

// roomy is l with room behind it, in which there is something.
func roomy[T any](l []T, behind T) []T { return append(slices.Clone(l), behind, behind)[:len(l)] }

// Rule 4: what is handed in stays as it was, not even what stands behind a list's end is changed.
func TestHandedInStays(t *testing.T) {
	r := rand.New(rand.NewSource(87))
	for range 1000 {
		p, where, placed := randomPod(r, "p", 2), oneOf(r, labelLists()), randomPlaced(r, 4)
		p.Labels, p.Near, p.Apart = roomy(p.Labels, api.Label{Key: "behind"}), roomy(p.Near, api.Term{Key: "behind"}), roomy(p.Apart, api.Term{Key: "behind"})
		where, placed = roomy(where, api.Label{Key: "behind"}), roomy(append(placed, full()), full())
		now := struct {
			P      api.Pod
			Where  []api.Label
			Placed []api.Placed
		}{p, where, placed}
		was := opened(now)
		near.Check(p, where, placed)
		x := near.New(p, placed...)
		for _, y := range placed {
			x.Add(y)
			x.Clone().Drop(y)
			x.Drop(y)
			x.Check(where)
		}
		if got := opened(now); !reflect.DeepEqual(got, was) {
			t.Fatalf("changed: %+v, was %+v", got, was)
		}
	}
}

// Rule 4: changing what was handed in afterwards changes nothing of a table, nor of a clone.
func TestHandedInIsNotKept(t *testing.T) {
	r := rand.New(rand.NewSource(88))
	for range 1500 {
		p, placed := randomPod(r, "p", 2), append(randomPlaced(r, 4), full())
		kept, stays := copied(p), copied(placed)
		more := append(randomPlaced(r, 2), full())
		staysMore := copied(more)
		p, placed, more = copied(p), copied(placed), copied(more)
		x := near.New(p, placed...)
		for _, y := range more {
			does(t, "Add", x.Add(y), api.OK)
		}
		y := x.Clone()
		spoil([]api.Pod{p})
		spoil(p.Labels)
		spoil(p.Near)
		spoil(p.Apart)
		spoil(placed)
		spoil(more)
		for _, where := range labelLists() {
			want := near.Check(kept, where, slices.Concat(stays, staysMore))
			asked := copied(where)
			tells(t, "the table", x, asked, want)
			spoil(asked)
			tells(t, "the table once more", x, copied(where), want)
			tells(t, "the clone", y, copied(where), want)
		}
		dropAll(t, x, kept, staysMore, stays)
		dropAll(t, y, kept, stays, staysMore)
		// The pod's terms and labels count for what comes later, too.
		for _, z := range stays {
			does(t, "Add", x.Add(z), api.OK)
		}
		for _, where := range labelLists() {
			tells(t, "told anew", x, where, near.Check(kept, where, stays))
		}
	}
}

// dropAll drops each of the lists, which are all that is placed: those of the pod's own name, too.
func dropAll(t *testing.T, x *near.Table, p api.Pod, lists ...[]api.Placed) {
	t.Helper()
	for _, y := range slices.Concat(lists...) {
		does(t, "Drop", x.Drop(y), api.OK)
	}
	for _, y := range slices.Concat(lists...) {
		does(t, "Drop once more", x.Drop(y), api.ErrNone)
	}
	for _, where := range labelLists() {
		tells(t, "nothing left", x, where, near.Check(p, where, nil))
	}
}

// P2: a Drop that is refused changes nothing that a later call could tell.
func TestRefusedChangesNothing(t *testing.T) {
	r := rand.New(rand.NewSource(89))
	for range 500 {
		p, placed := randomPod(r, "p", 2), randomPlaced(r, 4)
		x := near.New(p, placed...)
		for _, y := range unlikeSome(r, placed) {
			does(t, "Drop", x.Drop(y), api.ErrNone)
			does(t, "Drop", x.Drop(y), api.ErrNone)
		}
		for _, where := range labelLists() {
			tells(t, "behind refusals", x, where, near.Check(p, where, placed))
		}
		dropAll(t, x, p, placed)
	}
}

// unlikeSome is each of l with something else in it, so that it is like none of them.
func unlikeSome(r *rand.Rand, l []api.Placed) []api.Placed {
	var out []api.Placed
	for k, x := range copied(l) {
		switch r.Intn(3) {
		case 0:
			x.Pod.Priority = 99 + k
		case 1:
			x.Labels = append(x.Labels, api.Label{Key: "unlike", Value: strconv.Itoa(k)})
		case 2:
			x.Pod.Near = append(x.Pod.Near, api.Term{Key: "unlike"})
		}
		out = append(out, x)
	}
	return out
}

// P1: no call panics, and each ends, whatever is handed in, of many members, too.
func TestManyMembers(t *testing.T) {
	many := make([]api.Label, 20000)
	for k := range many {
		many[k] = api.Label{Key: "k" + strconv.Itoa(k), Value: "v"}
	}
	last := many[len(many)-1].Key
	p := api.Pod{Name: "p", Labels: many, Near: []api.Term{{Key: last}}, Apart: make([]api.Term, 500)}
	x := api.Placed{Pod: api.Pod{Name: "a", Labels: many, Apart: []api.Term{{Key: last, Reqs: []api.Req{{Key: last, Op: api.OpExists}}}}}, Labels: many}
	told(t, "many labels", p, many, []api.Placed{x}, api.WhyOthers)
	told(t, "nothing", api.Pod{}, nil, nil, 0)
	told(t, "nothing, of its own name", api.Pod{}, nil, []api.Placed{{}, {}}, 0)
	told(t, "terms of nothing", api.Pod{Name: "p", Near: []api.Term{{}}, Apart: []api.Term{{}}}, nil, []api.Placed{{}}, api.WhyNear)
	told(t, "terms of nothing, labels of nothing", api.Pod{Name: "p", Near: []api.Term{{}}, Apart: []api.Term{{}}}, []api.Label{{}}, []api.Placed{{Labels: []api.Label{{}}}}, api.WhyApart)
}
