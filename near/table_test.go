package near_test

import (
	"fmt"
	"math/rand"
	"reflect"
	"slices"
	"strconv"
	"testing"

	"stevedore/api"
	"stevedore/near"
)

// apartFromX is a pod that tells whether somebody of app x is in a zone.
func apartFromX() api.Pod { return api.Pod{Name: "p", Apart: []api.Term{app("x", "zone")}} }

// 8.2, rule 2: a table that no call made, at each of its calls; it stays so.
func TestTableThatNoCallMade(t *testing.T) {
	var none *near.Table
	for _, x := range []*near.Table{none, {}, new(near.Table)} {
		for range 2 {
			does(t, "Add", x.Add(at("a", "x", zone("1"))), api.ErrNil)
			does(t, "Add of nothing", x.Add(api.Placed{}), api.ErrNil)
			does(t, "Drop", x.Drop(at("a", "x", zone("1"))), api.ErrNil)
			does(t, "Drop of nothing", x.Drop(api.Placed{}), api.ErrNil)
			if why, e := x.Check(zone("1")); why != 0 || e != api.ErrNil {
				t.Errorf("Check: %d %d", why, e)
			}
			if why, e := x.Check(nil); why != 0 || e != api.ErrNil {
				t.Errorf("Check of nothing: %d %d", why, e)
			}
			if c := x.Clone(); c != nil {
				t.Errorf("Clone: %+v", c)
			}
		}
	}
	// A table of nothing is one that a call made.
	empty := near.New(api.Pod{})
	tells(t, "a table of nothing", empty, nil, 0)
	does(t, "Drop from a table of nothing", empty.Drop(at("a", "x", nil)), api.ErrNone)
	does(t, "Add to a table of nothing", empty.Clone().Add(at("a", "x", nil)), api.OK)
}

// 8.2: Add and Drop, one behind the other.
func TestAddAndDrop(t *testing.T) {
	a, b := at("a", "x", zone("1")), at("b", "x", zone("2"))
	x := near.New(apartFromX())
	tells(t, "nothing", x, zone("1"), 0)
	does(t, "Drop of what was never placed", x.Drop(a), api.ErrNone)
	does(t, "Add", x.Add(a), api.OK)
	tells(t, "a, its zone", x, zone("1"), api.WhyApart)
	tells(t, "a, another zone", x, zone("2"), 0)
	does(t, "Drop of another one", x.Drop(b), api.ErrNone)
	tells(t, "a still", x, zone("1"), api.WhyApart)
	does(t, "Add", x.Add(b), api.OK)
	tells(t, "a, b", x, zone("2"), api.WhyApart)
	does(t, "Drop", x.Drop(a), api.OK)
	tells(t, "b, a's zone", x, zone("1"), 0)
	tells(t, "b, its zone", x, zone("2"), api.WhyApart)
	does(t, "Drop once more", x.Drop(a), api.ErrNone)
	does(t, "Add again", x.Add(a), api.OK)
	tells(t, "a again", x, zone("1"), api.WhyApart)
	does(t, "Drop again", x.Drop(a), api.OK)
	tells(t, "a no more", x, zone("1"), 0)
	does(t, "Drop once more", x.Drop(a), api.ErrNone)
	does(t, "Drop of the last one", x.Drop(b), api.OK)
	tells(t, "nothing, a's zone", x, zone("1"), 0)
	tells(t, "nothing, b's zone", x, zone("2"), 0)
	does(t, "Drop of b once more", x.Drop(b), api.ErrNone)
}

// 8.2: who was the first one is so again when the others are dropped.
func TestFirstOneAgain(t *testing.T) {
	p := api.Pod{Name: "p", Labels: labels("app", "x"), Near: []api.Term{app("x", "zone")}}
	a, b, bare := at("a", "x", zone("1")), at("b", "x", zone("1")), at("c", "x", nil)
	x := near.New(p, bare)
	tells(t, "the first one", x, zone("2"), 0)
	does(t, "Add", x.Add(a), api.OK)
	does(t, "Add", x.Add(b), api.OK)
	tells(t, "beside them", x, zone("1"), 0)
	tells(t, "elsewhere", x, zone("2"), api.WhyNear)
	does(t, "Drop", x.Drop(a), api.OK)
	tells(t, "one is left", x, zone("2"), api.WhyNear)
	does(t, "Drop", x.Drop(b), api.OK)
	tells(t, "the first one again", x, zone("2"), 0)
	does(t, "Drop", x.Drop(bare), api.OK)
	tells(t, "the first one still", x, zone("2"), 0)
}

// 8.2: others keep apart until they are dropped, each of their terms in its own domain.
func TestOthersDropped(t *testing.T) {
	a := keeping(at("a", "z", labels("rack", "1", "zone", "1")), app("x", "zone"), app("x", "rack"), app("x", "zone"))
	b := keeping(at("b", "z", zone("1")), app("x", "zone"))
	x := near.New(api.Pod{Name: "p", Labels: labels("app", "x")}, a, b)
	tells(t, "both, the zone", x, zone("1"), api.WhyOthers)
	tells(t, "both, the rack", x, labels("rack", "1"), api.WhyOthers)
	does(t, "Drop", x.Drop(a), api.OK)
	tells(t, "b, the zone", x, zone("1"), api.WhyOthers)
	tells(t, "b, the rack", x, labels("rack", "1"), 0)
	does(t, "Drop", x.Drop(b), api.OK)
	tells(t, "none, the zone", x, zone("1"), 0)
}

// 8.2: of two that are placed just alike one is dropped, then the other one.
func TestTwoJustAlike(t *testing.T) {
	a := at("a", "x", zone("1"))
	wants := api.Pod{Name: "p", Near: []api.Term{app("x", "zone")}}
	kept := api.Pod{Name: "p", Labels: labels("app", "p")}
	for _, c := range []struct {
		p           api.Pod
		x           api.Placed
		with, after int
	}{
		{apartFromX(), a, api.WhyApart, 0},
		{wants, a, 0, api.WhyNear},
		{kept, keeping(a, app("p", "zone")), api.WhyOthers, 0},
	} {
		for k, x := range []*near.Table{near.New(c.p, c.x, c.x), near.New(c.p, c.x), near.New(c.p)} {
			for range k {
				does(t, "Add", x.Add(copied(c.x)), api.OK)
			}
			tells(t, "two", x, zone("1"), c.with)
			does(t, "Drop", x.Drop(c.x), api.OK)
			tells(t, "one", x, zone("1"), c.with)
			does(t, "Drop", x.Drop(copied(c.x)), api.OK)
			tells(t, "none", x, zone("1"), c.after)
			does(t, "Drop once more", x.Drop(c.x), api.ErrNone)
			tells(t, "none still", x, zone("1"), c.after)
		}
	}
}

// 8.2: a pod just like one placed, with other labels; labels just like those of another pod.
func TestDropOfHalves(t *testing.T) {
	a, b := at("a", "x", zone("1")), at("b", "x", zone("2"))
	x := near.New(apartFromX(), a, b)
	for what, y := range map[string]api.Placed{
		"other labels":          {Pod: a.Pod, Labels: zone("3")},
		"another one's labels":  {Pod: a.Pod, Labels: b.Labels},
		"another one's pod":     {Pod: b.Pod, Labels: a.Labels},
		"no labels":             {Pod: a.Pod},
		"more labels":           {Pod: a.Pod, Labels: labels("zone", "1", "zone", "2")},
		"a pod of another name": {Pod: at("c", "x", nil).Pod, Labels: a.Labels},
		"a pod of no name":      {Pod: at("", "x", nil).Pod, Labels: a.Labels},
		"its labels alone":      {Labels: a.Labels},
		"nothing":               {},
		"its name alone":        {Pod: api.Pod{Name: "a"}, Labels: a.Labels},
		"a pod of another app":  at("a", "y", zone("1")),
		"with a term":           keeping(a, app("x", "zone")),
		"p itself":              {Pod: apartFromX(), Labels: a.Labels},
	} {
		does(t, what, x.Drop(y), api.ErrNone)
		tells(t, what+", a", x, zone("1"), api.WhyApart)
		tells(t, what+", b", x, zone("2"), api.WhyApart)
		tells(t, what+", nobody", x, zone("3"), 0)
	}
	does(t, "a", x.Drop(a), api.OK)
	does(t, "b", x.Drop(b), api.OK)
}

// 8.2: one of the pod's own name changes nothing of what Check tells, in New, Add and Drop, alone and among others.
func TestOwnNameInATable(t *testing.T) {
	own, a := keeping(at("p", "x", zone("1")), app("p", "zone"), app("x", "zone")), at("a", "x", zone("2"))
	for _, p := range []api.Pod{apartFromX(), {Name: "p", Labels: labels("app", "x")}} {
		there := map[int]int{1: api.WhyApart}[len(p.Apart)]
		x := near.New(p, own)
		tells(t, "New", x, zone("1"), 0)
		does(t, "Add", x.Add(own), api.OK)
		tells(t, "Add", x, zone("1"), 0)
		does(t, "Drop", x.Drop(own), api.OK)
		tells(t, "Drop", x, zone("1"), 0)
		does(t, "Drop of the last one", x.Drop(own), api.OK)
		tells(t, "none", x, zone("1"), 0)
		x = near.New(p, a, own, a)
		does(t, "Add among others", x.Add(own), api.OK)
		tells(t, "among others", x, zone("1"), 0)
		tells(t, "among others, the others' zone", x, zone("2"), there)
		does(t, "Drop among others", x.Drop(own), api.OK)
		does(t, "Drop of p", x.Drop(api.Placed{Pod: p, Labels: zone("2")}), api.ErrNone)
		tells(t, "behind them, the others' zone", x, zone("2"), there)
		does(t, "Drop of another", x.Drop(a), api.OK)
		does(t, "Drop of another", x.Drop(a), api.OK)
		does(t, "Drop of another", x.Drop(a), api.ErrNone)
		tells(t, "nobody else left", x, zone("2"), 0)
		does(t, "Drop of the last one", x.Drop(own), api.OK)
		tells(t, "nobody left", x, zone("2"), 0)
	}
	wants := api.Pod{Name: "p", Near: []api.Term{app("x", "zone")}}
	x := near.New(wants, own)
	does(t, "Add", x.Add(own), api.OK)
	tells(t, "nobody near", x, zone("1"), api.WhyNear)
	wants.Labels = labels("app", "x")
	x = near.New(wants, own)
	does(t, "Add", x.Add(own), api.OK)
	tells(t, "the first one", x, zone("2"), 0)
	does(t, "Drop", x.Drop(own), api.OK)
	tells(t, "the first one still", x, zone("2"), 0)
}

// 8.2: Drop finds as many of the pod's own name as were placed, by New and by Add.
func TestDropOfOwnName(t *testing.T) {
	for _, p := range []api.Pod{{}, {Name: "p1"}, apartFromX(), {Name: "p", Labels: labels("app", "x"), Near: []api.Term{app("x", "zone")}}} {
		bare := api.Placed{Pod: api.Pod{Name: p.Name}}
		for _, own := range []api.Placed{bare, {Pod: p, Labels: zone("1")}, keeping(at(p.Name, "x", zone("2")), app("x", "zone"))} {
			for n := range 4 {
				handed := slices.Repeat([]api.Placed{own}, n)
				grown := near.New(p)
				for range n {
					does(t, "Add", grown.Add(copied(own)), api.OK)
				}
				for _, x := range []*near.Table{near.New(p, handed...), grown, grown.Clone()} {
					dropsJust(t, x, p, own, n)
				}
			}
		}
	}
}

// dropsJust drops own n times, and asks each time that it changes nothing of what Check tells; then there is none.
func dropsJust(t *testing.T, x *near.Table, p api.Pod, own api.Placed, n int) {
	t.Helper()
	alone := func(what string) {
		for _, where := range labelLists() {
			tells(t, what, x, where, near.Check(p, where, nil))
		}
	}
	elsewhere := api.Placed{Pod: own.Pod, Labels: zone("elsewhere")}
	alone("placed")
	for range n {
		does(t, "Drop with other labels", x.Drop(elsewhere), api.ErrNone)
		does(t, "Drop", x.Drop(copied(own)), api.OK)
		alone("dropped")
	}
	does(t, "Drop once more", x.Drop(own), api.ErrNone)
	does(t, "Add anew", x.Add(own), api.OK)
	does(t, "Drop anew", x.Drop(own), api.OK)
	does(t, "Drop anew, once more", x.Drop(own), api.ErrNone)
	alone("none left")
}

// 8.2: a clone has what the table had of the pod's own name, and goes its own way with it.
func TestCloneOfOwnName(t *testing.T) {
	own := at("p", "x", zone("1"))
	x := near.New(apartFromX(), own, own)
	y := x.Clone()
	does(t, "the table's Drop", x.Drop(own), api.OK)
	does(t, "the table's Drop", x.Drop(own), api.OK)
	does(t, "the table has none left", x.Drop(own), api.ErrNone)
	does(t, "the clone's Drop", y.Drop(own), api.OK)
	does(t, "the clone's Add", y.Add(own), api.OK)
	does(t, "the table has none still", x.Drop(own), api.ErrNone)
	does(t, "the clone's Drop", y.Drop(own), api.OK)
	does(t, "the clone's Drop", y.Drop(own), api.OK)
	does(t, "the clone has none left", y.Drop(own), api.ErrNone)
}

// unlike is all that differs from x in one leaf, or in one list's length or order.
func unlike(x api.Placed) []api.Placed {
	var out []api.Placed
	change := func(k int, how func(reflect.Value) bool) bool {
		y := copied(x)
		n, done := 0, false
		each(reflect.ValueOf(&y).Elem(), func(v reflect.Value) {
			if n == k {
				done = how(v)
			}
			n++
		})
		if done {
			out = append(out, y)
		}
		return k < n
	}
	for k := 0; change(k, changed); k++ {
		change(k, shortened)
		change(k, lengthened)
		change(k, turned)
	}
	return out
}

func changed(v reflect.Value) bool {
	switch v.Kind() {
	case reflect.String:
		v.SetString(v.String() + "0")
	case reflect.Int:
		v.SetInt(v.Int() + 1)
	case reflect.Bool:
		v.SetBool(!v.Bool())
	default:
		return false
	}
	return true
}

func shortened(v reflect.Value) bool {
	if v.Kind() != reflect.Slice {
		return false
	}
	v.Set(v.Slice(0, v.Len()-1))
	return true
}

func lengthened(v reflect.Value) bool {
	if v.Kind() != reflect.Slice {
		return false
	}
	v.Set(reflect.Append(v, reflect.Zero(v.Type().Elem())))
	return true
}

func turned(v reflect.Value) bool {
	if v.Kind() != reflect.Slice {
		return false
	}
	reflect.Swapper(v.Interface())(0, 1)
	return true
}

// 8.2: just like is like in all: each field of the pod, and the labels; of the pod's own name, too.
func TestJustLikeInAll(t *testing.T) {
	x := full()
	for _, name := range []string{"p", x.Pod.Name} {
		likeInAll(t, x, api.Pod{Name: name, Near: x.Pod.Near, Apart: x.Pod.Apart, Labels: x.Pod.Labels})
	}
}

func likeInAll(t *testing.T, x api.Placed, p api.Pod) {
	t.Helper()
	others := unlike(x)
	if len(others) < 150 {
		t.Fatalf("%d others", len(others))
	}
	all := near.New(p, others...)
	does(t, "x among all but x", all.Drop(x), api.ErrNone)
	for _, y := range others {
		one := near.New(p, x)
		want := near.Check(p, zone("1"), []api.Placed{x})
		does(t, fmt.Sprintf("%+v", y), one.Drop(y), api.ErrNone)
		tells(t, fmt.Sprintf("%+v", y), one, zone("1"), want)
		does(t, "x", one.Drop(copied(x)), api.OK)
		does(t, "x once more", one.Drop(x), api.ErrNone)
		does(t, fmt.Sprintf("%+v among all", y), all.Drop(y), api.OK)
	}
	for _, y := range others {
		does(t, "all dropped", all.Drop(y), api.ErrNone)
	}
}

// 8.2: texts, numbers and lists that only together look alike are not alike.
func TestJustLikeByParts(t *testing.T) {
	pod := func(p api.Pod) api.Placed { p.Name = "a"; return api.Placed{Pod: p} }
	values := func(l ...string) api.Placed {
		return pod(api.Pod{Asks: []api.Req{{Key: "k", Op: api.OpIn, Values: l}}})
	}
	x, y := api.Req{Key: "x", Op: api.OpExists}, api.Req{Key: "y", Op: api.OpExists}
	l := []api.Placed{
		pod(api.Pod{}), pod(api.Pod{Node: "n"}), pod(api.Pod{Hope: "n"}), pod(api.Pod{Node: "n", Hope: "n"}),
		pod(api.Pod{Labels: labels("ab", "c")}), pod(api.Pod{Labels: labels("a", "bc")}), pod(api.Pod{Labels: labels("", "abc")}),
		pod(api.Pod{Labels: labels("a", "b", "c", "d")}), pod(api.Pod{Labels: labels("a", "b")}), {Pod: api.Pod{Name: "a"}, Labels: labels("a", "b")},
		pod(api.Pod{Labels: labels("c", "d", "a", "b")}), pod(api.Pod{Labels: labels("a", "b", "a", "b")}),
		pod(api.Pod{Ports: []int{1, 23}}), pod(api.Pod{Ports: []int{12, 3}}), pod(api.Pod{Ports: []int{123}}), pod(api.Pod{Ports: []int{-123}}),
		pod(api.Pod{Priority: 1}), pod(api.Pod{Priority: -1}), pod(api.Pod{Want: api.Res{CPU: 1}}), pod(api.Pod{Want: api.Res{Mem: 1}}), pod(api.Pod{Want: api.Res{Disk: 1}}),
		values(), values(""), values("", ""), values("a", "b"), values("b", "a"), values("ab"), values("a b"), values("a,b"), values("a\x00b"), values("a 1 b"), values("1 a"), values("1 a1 b"), values("a", "1 b"),
		values("é"), values("\xc3"), values("\xff"), values("\xfe"), values("\ufffd"),
		pod(api.Pod{Claims: []string{"a", "b"}}), pod(api.Pod{Claims: []string{"ab"}}), pod(api.Pod{Claims: []string{"a"}, Node: "b"}),
		pod(api.Pod{Asks: []api.Req{x, y}}), pod(api.Pod{Asks: []api.Req{y, x}}), pod(api.Pod{Asks: []api.Req{x}}), pod(api.Pod{Prefers: []api.Prefer{{Reqs: []api.Req{x}}}}),
		pod(api.Pod{Near: []api.Term{{Reqs: []api.Req{x, y}}}}), pod(api.Pod{Near: []api.Term{{Reqs: []api.Req{x}}, {Reqs: []api.Req{y}}}}), pod(api.Pod{Apart: []api.Term{{Reqs: []api.Req{x, y}}}}),
		pod(api.Pod{Near: []api.Term{{Key: "zone"}}}), pod(api.Pod{Apart: []api.Term{{Key: "zone"}}}), pod(api.Pod{Near: []api.Term{{}}}), pod(api.Pod{Apart: []api.Term{{}}}),
		pod(api.Pod{Spreads: []api.Spread{{Skew: 1}}}), pod(api.Pod{Spreads: []api.Spread{{Least: 1}}}), pod(api.Pod{Spreads: []api.Spread{{}}}),
		pod(api.Pod{Bears: []api.Bear{{Any: true}}}), pod(api.Pod{Bears: []api.Bear{{}}}), pod(api.Pod{Bears: []api.Bear{{Effect: 1}}}), pod(api.Pod{Bears: []api.Bear{{Key: "a"}}}), pod(api.Pod{Bears: []api.Bear{{Value: "a"}}}),
	}
	for i, one := range l {
		x := near.New(api.Pod{Name: "p"}, one)
		for j, other := range l {
			if i != j {
				does(t, fmt.Sprintf("%+v, placed %+v", other, one), x.Drop(other), api.ErrNone)
			}
		}
		does(t, fmt.Sprintf("%+v", one), x.Drop(one), api.OK)
	}
}

// 8.2, rule 3: a list without members is the same, nil or empty.
func TestJustLikeNilOrEmpty(t *testing.T) {
	reqs := []api.Req{{Key: "app", Op: api.OpExists}}
	empty := []api.Req{{Key: "app", Op: api.OpExists, Values: []string{}}}
	none := api.Placed{Pod: api.Pod{Name: "a", Asks: reqs, Prefers: []api.Prefer{{}}, Near: []api.Term{{}}, Apart: []api.Term{{Reqs: reqs}}, Spreads: []api.Spread{{}}}}
	some := api.Placed{
		Pod: api.Pod{
			Name: "a", Labels: []api.Label{}, Bears: []api.Bear{}, Asks: empty, Prefers: []api.Prefer{{Reqs: []api.Req{}}}, Ports: []int{},
			Near: []api.Term{{Reqs: []api.Req{}}}, Apart: []api.Term{{Reqs: empty}}, Spreads: []api.Spread{{Reqs: []api.Req{}}}, Claims: []string{},
		},
		Labels: []api.Label{},
	}
	bare := api.Placed{Pod: api.Pod{Name: "a"}}
	lists := api.Placed{Pod: api.Pod{Name: "a", Asks: []api.Req{}, Prefers: []api.Prefer{}, Near: []api.Term{}, Apart: []api.Term{}, Spreads: []api.Spread{}}}
	for _, c := range []struct{ a, b api.Placed }{{none, some}, {some, none}, {bare, lists}, {lists, bare}} {
		x := near.New(api.Pod{Name: "p"}, c.a, c.b)
		does(t, "the first", x.Drop(c.a), api.OK)
		does(t, "the second", x.Drop(c.a), api.OK)
		does(t, "none left", x.Drop(c.b), api.ErrNone)
	}
}

// 8.2: random pairs are just alike if they are so field by field.
func TestRandomLikeness(t *testing.T) {
	r := rand.New(rand.NewSource(82))
	alike := 0
	for range 20000 {
		a, b := randomLike(r), randomLike(r)
		is := reflect.DeepEqual(a, b)
		got := near.New(api.Pod{Name: oneOf(r, []string{"p", "a"})}, a).Drop(b)
		if (got == api.OK) != is || got != api.OK && got != api.ErrNone {
			t.Fatalf("%+v, placed %+v: %d", b, a, got)
		}
		if is {
			alike++
		}
	}
	if alike < 200 || alike > 15000 {
		t.Errorf("drawn: %d", alike)
	}
}

// randomLike has few fields of few values, that look like what is written of others.
func randomLike(r *rand.Rand) api.Placed {
	text := func() string { return oneOf(r, []string{"", "1 a", "a"}) }
	x := api.Placed{Pod: api.Pod{Name: "a"}}
	switch r.Intn(6) {
	case 0:
		x.Pod.Claims = []string{text(), text()}
	case 1:
		x.Labels = []api.Label{{Key: text(), Value: text()}}
	case 2:
		x.Pod.Labels = []api.Label{{Key: text(), Value: text()}}
	case 3:
		x.Pod.Node, x.Pod.Hope = text(), text()
	case 4:
		x.Pod.Asks = []api.Req{{Key: text(), Op: r.Intn(2)}}
	case 5:
		x.Pod.Ports = []int{r.Intn(3) - 1, r.Intn(2) * 11}
	}
	return x
}

// run is a table that is told this and that, and what should be left of it.
type run struct {
	p    api.Pod
	x    *near.Table
	left []api.Placed
}

// step does one thing, an Add or a Drop, and holds what is answered against what is left.
func (u *run) step(t *testing.T, r *rand.Rand, pool []api.Placed) {
	t.Helper()
	y := oneOf(r, pool)
	if r.Intn(2) == 0 {
		does(t, "Add", u.x.Add(y), api.OK)
		u.left = append(slices.Clone(u.left), y)
		return
	}
	k := slices.IndexFunc(u.left, func(z api.Placed) bool { return reflect.DeepEqual(z, y) })
	if k < 0 {
		does(t, "Drop of none", u.x.Drop(y), api.ErrNone)
		return
	}
	does(t, "Drop", u.x.Drop(y), api.OK)
	u.left = slices.Delete(slices.Clone(u.left), k, k+1)
}

// holds asks for each of the labels, of the table and of what is left.
func (u *run) holds(t *testing.T) map[int]int {
	t.Helper()
	seen := map[int]int{}
	for _, where := range labelLists() {
		want := near.Check(u.p, where, u.left)
		if by := whyByWords(u.p, where, u.left); by != want {
			t.Fatalf("Check(%+v, %v, %+v): %d, want %d", u.p, where, u.left, want, by)
		}
		if got, e := u.x.Check(where); got != want || e != api.OK {
			t.Fatalf("%+v, left %+v: Check(%v): %d %d, want %d", u.p, u.left, where, got, e, want)
		}
		seen[want]++
	}
	return seen
}

// pool is n that are placed, as no empty list stands for none in it.
func pool(r *rand.Rand, n int) []api.Placed {
	var l []api.Placed
	for len(l) < n {
		for _, x := range randomPlaced(r, 3) {
			if x.Labels == nil || len(x.Labels) > 0 {
				l = append(l, x)
			}
		}
	}
	for k := range l {
		if len(l[k].Pod.Labels) == 0 {
			l[k].Pod.Labels = nil
		}
		for _, terms := range [][]api.Term{l[k].Pod.Near, l[k].Pod.Apart} {
			for i := range terms {
				if len(terms[i].Reqs) == 0 {
					terms[i].Reqs = nil
				}
			}
		}
	}
	return l
}

// 8.3: behind whatever Adds and Drops a table tells what Check tells of what is left; clones go their own ways.
func TestLongRuns(t *testing.T) {
	r := rand.New(rand.NewSource(83))
	seen := map[int]int{}
	for range 150 {
		p, l := randomPod(r, "p", r.Intn(3)), pool(r, 8)
		runs := []*run{{p: p, x: near.New(p)}}
		for step := range 120 {
			u := oneOf(r, runs)
			u.step(t, r, l)
			if step%10 == 0 && len(runs) < 5 {
				runs = append(runs, &run{p: p, x: u.x.Clone(), left: u.left})
			}
			for why, n := range u.holds(t) {
				seen[why] += n
			}
		}
		for _, u := range runs {
			u.holds(t)
			for _, y := range u.left {
				does(t, "Drop of what is left", u.x.Drop(y), api.OK)
			}
			u.left = nil
			u.holds(t)
		}
	}
	for _, why := range []int{0, api.WhyNear, api.WhyApart, api.WhyOthers} {
		if seen[why] < 3000 {
			t.Errorf("drawn: %v", seen)
		}
	}
}

// 8.3: many of one kind, in many domains.
func TestManyPlaced(t *testing.T) {
	p := api.Pod{Name: "p", Labels: labels("app", "p"), Apart: []api.Term{app("x", "host")}, Near: []api.Term{app("x", "zone")}}
	x := near.New(p)
	var l []api.Placed
	for k := range 3000 {
		n := strconv.Itoa(k)
		l = append(l, at("a"+n, "x", labels("host", n, "zone", strconv.Itoa(k%7))))
		does(t, "Add", x.Add(l[k]), api.OK)
	}
	for k, y := range l {
		where := labels("host", strconv.Itoa(k), "zone", strconv.Itoa(k%7))
		tells(t, "there", x, where, api.WhyApart)
		does(t, "Drop", x.Drop(y), api.OK)
		want := 0
		if k >= len(l)-7 {
			want = api.WhyNear
		}
		tells(t, "no more", x, where, want)
	}
}

// 8.2: a clone goes its own way, and so does the table behind it.
func TestClone(t *testing.T) {
	a, b, c := at("a", "x", zone("1")), at("b", "x", zone("2")), keeping(at("c", "z", zone("3")), app("p", "zone"))
	p := apartFromX()
	p.Labels = labels("app", "p")
	x := near.New(p, a, a, c)
	y := x.Clone()
	if x == y {
		t.Fatal("one table")
	}
	does(t, "the clone's Drop", y.Drop(a), api.OK)
	does(t, "the clone's Drop", y.Drop(a), api.OK)
	does(t, "the clone's Drop", y.Drop(c), api.OK)
	does(t, "the clone's Add", y.Add(b), api.OK)
	for where, want := range map[string][2]int{"1": {api.WhyApart, 0}, "2": {0, api.WhyApart}, "3": {api.WhyOthers, 0}} {
		tells(t, "the table, "+where, x, zone(where), want[0])
		tells(t, "the clone, "+where, y, zone(where), want[1])
	}
	does(t, "the table has no b", x.Drop(b), api.ErrNone)
	does(t, "the clone has no a", y.Drop(a), api.ErrNone)
	z := y.Clone()
	does(t, "the table's Drop", x.Drop(a), api.OK)
	does(t, "the table's Drop", x.Drop(a), api.OK)
	does(t, "the table's Drop", x.Drop(c), api.OK)
	does(t, "the clone's Drop", y.Drop(b), api.OK)
	for _, where := range []string{"1", "2", "3"} {
		tells(t, "the table, "+where, x, zone(where), 0)
		tells(t, "the clone, "+where, y, zone(where), 0)
	}
	tells(t, "the clone's clone", z, zone("2"), api.WhyApart)
	does(t, "the clone's clone", z.Drop(b), api.OK)
	// Clone keeps the pod, too: its name, labels and terms.
	does(t, "the clone's own name", z.Add(at("p", "x", zone("1"))), api.OK)
	tells(t, "the clone's own name", z, zone("1"), 0)
	does(t, "the clone's labels", z.Add(c), api.OK)
	tells(t, "the clone's labels", z, zone("3"), api.WhyOthers)
	wants := near.New(api.Pod{Name: "p", Near: []api.Term{app("x", "zone")}}, a)
	alone := wants.Clone()
	does(t, "the wanted one", alone.Drop(a), api.OK)
	tells(t, "the clone without it", alone, zone("1"), api.WhyNear)
	tells(t, "the table with it", wants, zone("1"), 0)
}
