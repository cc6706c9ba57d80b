package volume_test

import (
	"fmt"
	"math"
	"math/rand"
	"slices"
	"testing"

	"stevedore/api"
	"stevedore/volume"
)

// 10.1, the chapter's example.
func TestExample(t *testing.T) {
	s := state([]api.Claim{claim("c", 2000, "")}, vol("v1", 1000, ""), vol("v2", 3000, ""), vol("v3", 2000, ""))
	planned(t, "the one of 2000", pod("c"), node(1), s, "c", "v3")
	if api.WhyClaim != 13 || api.WhyVolume != 14 || api.WhyDisks != 15 {
		t.Errorf("the reasons' numbers: %d %d %d", api.WhyClaim, api.WhyVolume, api.WhyDisks)
	}
}

// 10.1: a pod without claims picks nothing; only what is in use already may be against it.
func TestNoClaims(t *testing.T) {
	for _, p := range []api.Pod{pod(), {}, {Claims: []string{}}} {
		for _, s := range []api.State{{}, state(nil), state([]api.Claim{claim("c", 1, "")}, vol("v", 1, ""))} {
			planned(t, "nothing in use", p, node(0), s)
			planned(t, "as many in use", p, node(2, "x", "y"), s)
			unplanned(t, "more in use", p, node(1, "x", "y"), s, api.WhyDisks)
			unplanned(t, "nothing in use, Disks below 0", p, node(-1), s, api.WhyDisks)
			planned(t, "an info of nothing", p, api.Info{}, s)
		}
	}
}

// 10.1: a claim that is not there.
func TestClaimNotThere(t *testing.T) {
	s := state([]api.Claim{claim("c", 1, ""), claim("cc", 1, "")}, vol("v", 1, ""), vol("x", 1, "x"))
	for _, name := range []string{"x", "", "C", "ccc", "v", "p", "k"} {
		unplanned(t, "no claim "+name, pod(name), node(9), s, api.WhyClaim)
		unplanned(t, "no claims at all, "+name, pod(name), node(9), state(nil, vol("v", 1, "")), api.WhyClaim)
		unplanned(t, "nothing at all, "+name, pod(name), api.Info{}, api.State{}, api.WhyClaim)
	}
}

// 10.1: a claim that has a volume.
func TestClaimHasAVolume(t *testing.T) {
	small := vol("v", 0, "c")
	small.Class = "other"
	never := vol("v", 5, "c")
	never.Reqs = []api.Req{{Key: "zone", Op: 9}}
	for _, c := range []struct {
		what string
		v    []api.Volume
		why  int
	}{
		{"its own", []api.Volume{vol("v", 5, "c")}, 0},
		{"its own, of zone 1", []api.Volume{volIn("1", "v", 5, "c")}, 0},
		{"its own among others", []api.Volume{vol("a", 5, ""), vol("b", 5, "d"), vol("v", 5, "c"), volIn("2", "w", 5, "")}, 0},
		{"its own, too small and of another class", []api.Volume{small}, 0},
		{"none", nil, api.WhyClaim},
		{"other names", []api.Volume{vol("a", 5, "c"), vol("vv", 5, "c"), vol("", 5, "c"), vol("c", 5, "c")}, api.WhyClaim},
		{"another claim's", []api.Volume{vol("v", 5, "d")}, api.WhyClaim},
		{"another claim's whose name begins alike", []api.Volume{vol("v", 5, "cc")}, api.WhyClaim},
		{"a free one", []api.Volume{vol("v", 5, "")}, api.WhyClaim},
		{"its own, of zone 2", []api.Volume{volIn("2", "v", 5, "c")}, api.WhyVolume},
		{"its own, of zone 2, others free", []api.Volume{vol("a", 5, ""), volIn("2", "v", 5, "c"), vol("w", 5, "")}, api.WhyVolume},
		{"its own, with what is never met", []api.Volume{never}, api.WhyVolume},
		{"another claim's, of zone 2", []api.Volume{volIn("2", "v", 5, "d")}, api.WhyClaim},
		{"a free one, of zone 2", []api.Volume{volIn("2", "v", 5, "")}, api.WhyClaim},
	} {
		for _, classes := range [][]api.Class{waiting(), nil, {{Name: "k"}}} {
			s := api.State{Claims: []api.Claim{claim("b", 1, ""), claim("c", 5, "v")}, Volumes: c.v, Classes: classes}
			told(t, c.what, pod("c"), node(1), s, c.why, nil)
		}
	}
}

// 10.1: a claim that has none, and whose class is not there, or does not wait, gets none, though there are volumes.
func TestClaimDoesNotWait(t *testing.T) {
	volumes := []api.Volume{vol("v", 5, ""), {Name: "w", Size: 5, Class: "now"}, {Name: "x", Size: 5, Class: "gone"}, {Name: "y", Size: 5}}
	for _, c := range []struct {
		class   string
		classes []api.Class
		waits   bool
	}{
		{"k", waiting(), true},
		{"now", waiting(), false},
		{"gone", waiting(), false},
		{"", waiting(), false},
		{"k", nil, false},
		{"k", []api.Class{{Name: "kk", Wait: true}, {Name: "", Wait: true}}, false},
		{"", []api.Class{{Wait: true}}, true},
		{"k", []api.Class{{Name: "k", Wait: true}, {Name: "k"}}, true},
		{"k", []api.Class{{Name: "k"}, {Name: "k", Wait: true}}, false},
	} {
		s := api.State{Claims: []api.Claim{{Name: "c", Size: 1, Class: c.class}}, Volumes: volumes, Classes: c.classes}
		what := fmt.Sprintf("class %q of %v", c.class, c.classes)
		none := s
		none.Volumes = nil
		if !c.waits {
			unplanned(t, what, pod("c"), node(1), s, api.WhyClaim)
			unplanned(t, what+", no volumes", pod("c"), node(1), none, api.WhyClaim)
			continue
		}
		k := slices.IndexFunc(volumes, func(v api.Volume) bool { return v.Class == c.class })
		planned(t, what, pod("c"), node(1), s, "c", volumes[k].Name)
		unplanned(t, what+", no volumes", pod("c"), node(1), none, api.WhyVolume)
	}
}

// 10.1: which volumes a claim that waits may get.
func TestVolumesThatFit(t *testing.T) {
	other := vol("v", 5, "")
	other.Class = "now"
	none := vol("v", 5, "")
	none.Class = ""
	for _, c := range []struct {
		what string
		v    api.Volume
		fits bool
	}{
		{"of just the size", vol("v", 5, ""), true},
		{"one more", vol("v", 6, ""), true},
		{"far more", vol("v", math.MaxInt, ""), true},
		{"one less", vol("v", 4, ""), false},
		{"nothing", vol("v", 0, ""), false},
		{"below 0", vol("v", math.MinInt, ""), false},
		{"of another class", other, false},
		{"of no class", none, false},
		{"another claim's", vol("v", 5, "d"), false},
		{"one's that is not there", vol("v", 5, "x"), false},
		{"its own, though it does not say so", vol("v", 5, "c"), false},
		{"of zone 1", volIn("1", "v", 5, ""), true},
		{"of zone 2", volIn("2", "v", 5, ""), false},
	} {
		s := state([]api.Claim{claim("c", 5, ""), claim("d", 5, "")}, c.v)
		behind := state(s.Claims, volIn("2", "a", 5, ""), c.v, vol("w", 4, ""), vol("z", math.MaxInt, ""))
		if !c.fits {
			unplanned(t, c.what, pod("c"), node(1), s, api.WhyVolume)
			planned(t, c.what+", a greater one behind it", pod("c"), node(1), behind, "c", "z")
			continue
		}
		planned(t, c.what, pod("c"), node(1), s, "c", "v")
		planned(t, c.what+", a greater one behind it", pod("c"), node(1), behind, "c", "v")
	}
	unplanned(t, "none at all", pod("c"), node(1), state([]api.Claim{claim("c", 0, "")}), api.WhyVolume)
	unplanned(t, "a node without labels", pod("c"), api.Info{Node: api.Node{Disks: 1}}, state([]api.Claim{claim("c", 0, "")}, volIn("1", "v", 5, "")), api.WhyVolume)
	planned(t, "of nothing, for nothing", pod("c"), node(1), state([]api.Claim{claim("c", 0, "")}, vol("v", 0, "")), "c", "v")
	planned(t, "numbers as they are", pod("c"), node(1), state([]api.Claim{claim("c", -2, "")}, vol("u", -3, ""), vol("v", 0, ""), vol("w", -1, "")), "c", "w")
	unplanned(t, "numbers as they are, beyond amounts", pod("c"), node(1), state([]api.Claim{claim("c", api.MaxAmount+1, "")}, vol("v", api.MaxAmount, "")), api.WhyVolume)
}

// 10.1: the smallest one, wherever it stands; of these the first by name, wherever it stands.
func TestTheSmallest(t *testing.T) {
	c := []api.Claim{claim("c", 2, "")}
	for _, volumes := range orders([]api.Volume{vol("v9", 3, ""), vol("v10", 3, ""), vol("v1", 4, ""), vol("a", 1, ""), vol("w", 3, "")}) {
		planned(t, "v10, byte by byte", pod("c"), node(1), state(c, volumes...), "c", "v10")
	}
	for _, volumes := range orders([]api.Volume{vol("a", 9, ""), vol("z", 2, ""), vol("m", 3, ""), volIn("2", "b", 2, "")}) {
		planned(t, "the smallest one, last by name", pod("c"), node(1), state(c, volumes...), "c", "z")
	}
	for _, volumes := range orders([]api.Volume{vol("b", 2, ""), vol("a", 2, "d"), vol("bb", 2, ""), vol("aa", 3, "")}) {
		planned(t, "the first by name is not free", pod("c"), node(1), state(c, volumes...), "c", "b")
	}
}

// orders is l in each order.
func orders[T any](l []T) [][]T {
	if len(l) == 0 {
		return [][]T{nil}
	}
	var out [][]T
	for k, x := range l {
		for _, rest := range orders(slices.Delete(slices.Clone(l), k, k+1)) {
			out = append(out, append([]T{x}, rest...))
		}
	}
	return out
}

// 10.1: what was picked in this plan is not picked again; the picks come in the order of the pod's list.
func TestSeveralPicks(t *testing.T) {
	claims := []api.Claim{claim("a", 1, ""), claim("b", 1, ""), claim("c", 2, ""), claim("h", 1, "own")}
	s := state(claims, vol("own", 1, "h"), vol("v1", 1, ""), vol("v2", 2, ""), vol("v3", 3, ""))
	planned(t, "a b c", pod("a", "b", "c"), node(9), s, "a", "v1", "b", "v2", "c", "v3")
	planned(t, "c b a", pod("c", "b", "a"), node(9), s, "c", "v2", "b", "v1", "a", "v3")
	planned(t, "b a", pod("b", "a"), node(9), s, "b", "v1", "a", "v2")
	planned(t, "what it has is no pick", pod("b", "h", "a"), node(9), s, "b", "v1", "a", "v2")
	s.Volumes = s.Volumes[:3]
	unplanned(t, "one volume too few", pod("a", "b", "c"), node(9), s, api.WhyVolume)
	// The smallest one, even where another order, or a greater one, would leave enough.
	s = state(claims, vol("v2", 2, ""), vol("v1", 1, ""))
	planned(t, "a c", pod("a", "c"), node(9), s, "a", "v1", "c", "v2")
	planned(t, "c a", pod("c", "a"), node(9), s, "c", "v2", "a", "v1")
	s.Volumes[1] = volIn("2", "v1", 1, "")
	unplanned(t, "a takes what c needs", pod("a", "c"), node(9), s, api.WhyVolume)
	planned(t, "c alone", pod("c"), node(9), s, "c", "v2")
	alike := state(claims, vol("w", 2, ""), vol("v", 2, ""), vol("x", 2, ""))
	planned(t, "all of one size", pod("c", "a", "b"), node(9), alike, "c", "v", "a", "w", "b", "x")
}

// 10.1: a second class has volumes of its own.
func TestPicksOfTwoClasses(t *testing.T) {
	s := api.State{Classes: []api.Class{{Name: "j", Wait: true}, {Name: "k", Wait: true}}, Claims: []api.Claim{{Name: "a", Class: "j"}, {Name: "b", Class: "k"}, {Name: "c", Class: "j"}}}
	s.Volumes = []api.Volume{{Name: "v1", Class: "k"}, {Name: "v2", Class: "j", Size: 1}, {Name: "v3", Class: "j"}}
	planned(t, "a b c", pod("a", "b", "c"), node(9), s, "a", "v3", "b", "v1", "c", "v2")
	s.Volumes[2].Class = "k"
	unplanned(t, "none of j left", pod("a", "b", "c"), node(9), s, api.WhyVolume)
}

// 10.1: of several claims one is against it: the first, a middle one, the last one; the first reason counts.
func TestSeveralClaims(t *testing.T) {
	claims := []api.Claim{
		claim("has", 1, "v"), claim("lost", 1, "gone"), claim("taken", 1, "w"), claim("away", 1, "z"), claim("big", 99, ""), {Name: "now", Size: 1, Class: "now"},
		claim("a", 1, ""), claim("b", 1, ""),
	}
	s := state(claims, vol("v", 1, "has"), vol("w", 1, "x"), volIn("2", "z", 1, "away"), vol("f1", 1, ""), vol("f2", 2, ""), vol("f3", 3, ""))
	bad := map[string]int{"lost": api.WhyClaim, "taken": api.WhyClaim, "away": api.WhyVolume, "big": api.WhyVolume, "now": api.WhyClaim, "none": api.WhyClaim}
	good := []string{"a", "has", "b"}
	planned(t, "none against it", pod(good...), node(3), s, "a", "f1", "b", "f2")
	for name, why := range bad {
		for k := range 4 {
			l := slices.Insert(slices.Clone(good), k, name)
			unplanned(t, fmt.Sprint(l), pod(l...), node(9), s, why)
			unplanned(t, fmt.Sprint(l, " and too many"), pod(l...), node(0), s, why)
			for other := range bad {
				l := slices.Insert(slices.Clone(l), k+1, other)
				unplanned(t, fmt.Sprint(l), pod(l...), node(9), s, why)
				l = append(slices.Clone(l), other)
				unplanned(t, fmt.Sprint(l, " and too many"), pod(l...), node(-1), s, why)
			}
		}
	}
}

// 10.1, 10.4: a claim that stands twice in the pod's list gets one volume, and is one claim in use.
func TestClaimTwice(t *testing.T) {
	s := state([]api.Claim{claim("c", 1, ""), claim("d", 1, ""), claim("h", 1, "v")}, vol("v", 1, "h"), vol("w", 1, ""), vol("x", 2, ""), vol("y", 3, ""))
	planned(t, "c c", pod("c", "c"), node(1), s, "c", "w")
	planned(t, "c d c d", pod("c", "d", "c", "d"), node(2), s, "c", "w", "d", "x")
	unplanned(t, "c d c d, Disks 1", pod("c", "d", "c", "d"), node(1), s, api.WhyDisks)
	planned(t, "h h", pod("h", "h"), node(1), s)
	planned(t, "d h d", pod("d", "h", "d"), node(2), s, "d", "w")
	one := state([]api.Claim{claim("c", 1, "")}, vol("w", 1, ""))
	planned(t, "c c, one volume", pod("c", "c", "c"), node(1), one, "c", "w")
	unplanned(t, "none, twice", pod("n", "n"), node(0), s, api.WhyClaim)
	unplanned(t, "none behind one twice", pod("c", "c", "n"), node(9), s, api.WhyClaim)
}

// 10.1: how many claims the node takes; claims that are in use there already count once.
func TestDisks(t *testing.T) {
	s := state([]api.Claim{claim("a", 1, ""), claim("b", 1, ""), claim("h", 1, "v")}, vol("v", 1, "h"), vol("w", 1, ""), vol("x", 1, ""))
	full := pod("a", "h", "b")
	for _, c := range []struct {
		p     api.Pod
		used  []string
		count int
	}{
		{pod("h"), nil, 1}, {pod("a"), nil, 1}, {full, nil, 3}, {full, []string{"y"}, 4}, {full, []string{"y", "z"}, 5},
		{full, []string{"a"}, 3}, {full, []string{"h"}, 3}, {full, []string{"a", "b", "h"}, 3}, {full, []string{"a", "b", "h", "z"}, 4}, {full, []string{"0", "b"}, 4},
		{pod("h"), []string{"h"}, 1}, {pod("h"), []string{"v"}, 2}, {pod(), []string{"a", "b"}, 2}, {pod("a", "a"), []string{"a"}, 1},
		{full, []string{"z", "h", "z", "a"}, 4}, {full, []string{"p", "n"}, 5}, {pod("h"), []string{""}, 2},
	} {
		for _, disks := range []int{math.MinInt, -1, 0, c.count - 1, c.count, c.count + 1, 1000, math.MaxInt} {
			what := fmt.Sprint(c.p.Claims, " beside ", c.used, ", Disks ", disks)
			l, why := volume.Plan(c.p, node(disks, c.used...), s)
			if disks < c.count {
				same(t, what, []any{l, why}, []any{[]api.Pick(nil), api.WhyDisks})
				continue
			}
			want, _ := planByWords(c.p, node(disks, c.used...), s)
			same(t, what, []any{l, why}, []any{want, 0})
		}
	}
	unplanned(t, "a reason of a claim comes first", pod("a", "n"), node(0, "y"), s, api.WhyClaim)
	unplanned(t, "a reason of a volume comes first", pod("a", "b", "c"), node(0), state([]api.Claim{claim("a", 1, ""), claim("b", 1, ""), claim("c", 1, "")}, vol("v", 1, "")), api.WhyVolume)
	// Pods, used amounts, and a node that is off, are others' to ask.
	i := node(1)
	i.Node.Off, i.Names, i.Used = true, []string{"p", "q"}, api.Res{Disk: 9}
	planned(t, "nothing but Disks and labels", pod("a"), i, s, "a", "w")
}

// 10.1: names that stand twice in the state: the first one counts, as if there were no other.
func TestFirstOnesCount(t *testing.T) {
	claims := func(l ...api.Claim) []api.Claim { return l }
	v := vol("v", 5, "")
	unplanned(t, "claims, the first one too big", pod("c"), node(1), state(claims(claim("c", 6, ""), claim("c", 5, "")), v), api.WhyVolume)
	planned(t, "claims, the second one too big", pod("c"), node(1), state(claims(claim("c", 5, ""), claim("c", 6, "")), v), "c", "v")
	unplanned(t, "claims, the first one has what is not there", pod("c"), node(1), state(claims(claim("c", 5, "x"), claim("c", 5, "")), v), api.WhyClaim)
	planned(t, "claims, the second one has what is not there", pod("c"), node(1), state(claims(claim("c", 5, ""), claim("c", 5, "x")), v), "c", "v")
	c := claims(claim("c", 5, ""))
	unplanned(t, "volumes, the first one not free", pod("c"), node(1), state(c, vol("v", 5, "d"), v), api.WhyVolume)
	planned(t, "volumes, the second one not free", pod("c"), node(1), state(c, v, vol("v", 5, "d")), "c", "v")
	unplanned(t, "volumes, the first one too small", pod("c"), node(1), state(c, vol("v", 4, ""), v), api.WhyVolume)
	unplanned(t, "volumes, the first one elsewhere", pod("c"), node(1), state(c, volIn("2", "v", 5, ""), v), api.WhyVolume)
	planned(t, "volumes, the second one smaller", pod("c"), node(1), state(c, vol("v", 7, ""), vol("w", 6, ""), v), "c", "w")
	two := claims(claim("c", 5, ""), claim("d", 5, ""))
	unplanned(t, "volumes, one name is one volume", pod("c", "d"), node(2), state(two, v, v), api.WhyVolume)
	unplanned(t, "volumes, one name is one volume, of two sizes", pod("c", "d"), node(2), state(two, v, vol("v", 6, "")), api.WhyVolume)
	has := claims(claim("c", 5, "v"))
	unplanned(t, "its own, the first one another's", pod("c"), node(1), state(has, vol("v", 5, "d"), vol("v", 5, "c")), api.WhyClaim)
	planned(t, "its own, the second one another's", pod("c"), node(1), state(has, vol("v", 5, "c"), vol("v", 5, "d")))
	unplanned(t, "its own, the first one elsewhere", pod("c"), node(1), state(has, volIn("2", "v", 5, "c"), vol("v", 5, "c")), api.WhyVolume)
	planned(t, "its own, the second one elsewhere", pod("c"), node(1), state(has, vol("v", 5, "c"), volIn("2", "v", 5, "c")))
}

// 10.1: the labels of the node are those of the info, not those of a node of its name in the state.
func TestLabelsOfTheInfo(t *testing.T) {
	s := state([]api.Claim{claim("c", 1, "")}, volIn("1", "v", 1, ""), volIn("2", "w", 1, ""))
	s.Nodes = []api.Node{{Name: "n", Labels: []api.Label{{Key: "zone", Value: "2"}}}}
	s.Pods = []api.Pod{{Name: "p", Claims: []string{"x"}, Node: "n"}, {Name: "q", Claims: []string{"y"}, Node: "n"}}
	planned(t, "zone 1", pod("c"), node(1), s, "c", "v")
}

// 10.1: random ones, held against the words.
func TestRandomPlans(t *testing.T) {
	r := rand.New(rand.NewSource(101))
	seen := map[int]int{}
	for n := range 60000 {
		s := anyState(r)
		if n%5 == 0 {
			s = nameless(r, s)
		}
		p, i := randomPod(r, s), randomInfo(r)
		l, why := volume.Plan(p, i, s)
		want, wantWhy := planByWords(p, i, s)
		if why != wantWhy || !slices.Equal(l, want) {
			t.Fatalf("Plan(%+v, %+v, %+v): %v %d, want %v %d", p, i, s, l, why, want, wantWhy)
		}
		seen[why]++
		seen[100+len(l)]++
	}
	for _, k := range []int{0, api.WhyClaim, api.WhyVolume, api.WhyDisks, 101, 102, 103} {
		if seen[k] < 100 {
			t.Errorf("drawn: %v", seen)
		}
	}
}
