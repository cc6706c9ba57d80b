package volume_test

import (
	"fmt"
	"math/rand"
	"slices"
	"testing"

	"stevedore/api"
	"stevedore/volume"
)

// 10.4: a plan may be applied; then each of the pod's claims has a volume that the node's labels meet, and nothing more is picked.
func TestPlansMayBeApplied(t *testing.T) {
	r := rand.New(rand.NewSource(1041))
	picked, twice := 0, 0
	for range 60000 {
		s := anyState(r)
		p, i := randomPod(r, s), randomInfo(r)
		l, why := volume.Plan(p, i, s)
		if why != 0 {
			continue
		}
		u, e := volume.Apply(s, l)
		if e != api.OK {
			t.Fatalf("Apply(%+v, %v): %d", s, l, e)
		}
		for _, name := range p.Claims {
			v := volumeAt(u, u.Claims[claimAt(u, name)].Volume)
			if v < 0 || u.Volumes[v].Claim != name || !meets(i.Node.Labels, u.Volumes[v].Reqs) {
				t.Fatalf("%s of %+v, %v: %+v", name, s, l, u)
			}
		}
		if more, why := volume.Plan(p, i, u); len(more) != 0 || why != 0 {
			t.Fatalf("Plan(%+v, %+v, %+v): %v %d", p, i, u, more, why)
		}
		picked += len(l)
		if len(l) > 1 {
			twice++
		}
	}
	if picked < 5000 || twice < 500 {
		t.Errorf("drawn: %d %d", picked, twice)
	}
}

// 10.5: Undo of Apply comes back, whatever the state; so does Apply of Undo, of what may be given.
func TestUndoOfApply(t *testing.T) {
	r := rand.New(rand.NewSource(105))
	back, forth, several := 0, 0, 0
	for n := range 20000 {
		s := anyState(r)
		if n%5 == 0 {
			s = nameless(r, s)
		}
		l := randomPicks(r, s)
		was := fmt.Sprintf("%+v", s)
		if u, e := volume.Apply(s, l); e == api.OK {
			w, e := volume.Undo(u, l)
			if e != api.OK || fmt.Sprintf("%+v", w) != was {
				t.Fatalf("Undo of Apply(%s, %v): %+v %d", was, l, w, e)
			}
			back += len(l)
			if len(l) > 1 {
				several++
			}
		}
		if u, e := volume.Undo(s, l); e == api.OK {
			if w, e := volume.Apply(u, l); e == api.OK {
				if fmt.Sprintf("%+v", w) != was {
					t.Fatalf("Apply of Undo(%s, %v): %+v", was, l, w)
				}
				forth += len(l)
			}
		}
	}
	if back < 1000 || forth < 100 || several < 100 {
		t.Errorf("drawn: %d %d %d", back, forth, several)
	}
}

// 10.6: no two claims get one volume, in a plan or by plans that are applied one behind the other; where Check was 0 it is 0.
func TestNoVolumeTwice(t *testing.T) {
	r := rand.New(rand.NewSource(106))
	given := 0
	for range 5000 {
		s := soundState(r)
		for range 5 {
			l, _ := volume.Plan(randomPod(r, s), randomInfo(r), s)
			u, e := volume.Apply(s, l)
			if e != api.OK {
				t.Fatalf("Apply(%+v, %v): %d", s, l, e)
			}
			for k, x := range l {
				if slices.ContainsFunc(l[:k], func(y api.Pick) bool { return y.Volume == x.Volume || y.Claim == x.Claim }) {
					t.Fatalf("twice: %v of %+v", l, s)
				}
			}
			given += len(l)
			s = u
		}
		if n := volume.Check(s); n != 0 {
			t.Fatalf("Check: %d of %+v", n, s)
		}
		has := map[string]int{}
		for _, c := range s.Claims {
			has[c.Volume]++
		}
		for v, n := range has {
			if v != "" && n > 1 {
				t.Fatalf("%s is %d claims': %+v", v, n, s)
			}
		}
	}
	if given < 3000 {
		t.Errorf("drawn: %d", given)
	}
}

// 10.6: of any picks that are taken, and states in which names stand twice.
func TestCheckBehindApply(t *testing.T) {
	r := rand.New(rand.NewSource(1061))
	asked, doubled := 0, 0
	for range 60000 {
		s := anyState(r)
		l := randomPicks(r, s)
		u, e := volume.Apply(s, l)
		if e != api.OK || len(l) == 0 || volume.Check(s) != 0 {
			continue
		}
		if n := volume.Check(u); n != 0 {
			t.Fatalf("Check behind Apply(%+v, %v): %d", s, l, n)
		}
		asked++
		if len(s.Claims) != len(slices.Compact(slices.Sorted(names(s.Claims)))) {
			doubled++
		}
	}
	if asked < 3000 || doubled < 100 {
		t.Errorf("drawn: %d %d", asked, doubled)
	}
}

func names(l []api.Claim) func(func(string) bool) {
	return func(yield func(string) bool) {
		for _, c := range l {
			if !yield(c.Name) {
				return
			}
		}
	}
}

// 10.7: with a volume more, wherever it comes, no plan fails that did not.
func TestAVolumeMore(t *testing.T) {
	r := rand.New(rand.NewSource(107))
	asked, others, helped := 0, 0, 0
	for range 60000 {
		s := anyState(r)
		p, i := randomPod(r, s), randomInfo(r)
		more := api.Volume{Name: oneOf(r, []string{"0new", "new", "zz"}), Size: oneOf(r, sizes()), Class: oneOf(r, classNames()), Reqs: oneOf(r, reqLists())}
		if r.Intn(6) == 0 {
			more.Claim = oneOf(r, claimNames())
		}
		u := s
		u.Volumes = slices.Insert(slices.Clone(s.Volumes), r.Intn(len(s.Volumes)+1), more)
		l, why := volume.Plan(p, i, s)
		m, now := volume.Plan(p, i, u)
		if why == 0 && now != 0 {
			t.Fatalf("Plan(%+v, %+v, %+v) with %+v: %d", p, i, s, more, now)
		}
		if why == 0 {
			asked++
		}
		if why == 0 && !slices.Equal(l, m) {
			others++
		}
		if why == api.WhyVolume && now == 0 {
			helped++
		}
	}
	if asked < 5000 || others < 300 || helped < 100 {
		t.Errorf("drawn: %d %d %d", asked, others, helped)
	}
}

// 10.7: one by hand: the greater one that is left over is there for the next claim.
func TestAVolumeMoreByHand(t *testing.T) {
	s := state([]api.Claim{claim("a", 1, ""), claim("b", 3, "")}, vol("v", 2, ""), vol("w", 4, ""))
	planned(t, "two", pod("a", "b"), node(2), s, "a", "v", "b", "w")
	for what, c := range map[string]struct {
		more api.Volume
		want []string
	}{
		"a smaller one":    {vol("x", 1, ""), []string{"a", "x", "b", "w"}},
		"one of its size":  {vol("u", 2, ""), []string{"a", "u", "b", "w"}},
		"a greater one":    {vol("x", 3, ""), []string{"a", "v", "b", "x"}},
		"one that is none": {volIn("2", "x", 1, ""), []string{"a", "v", "b", "w"}},
	} {
		u := s
		u.Volumes = append(slices.Clone(s.Volumes), c.more)
		planned(t, what, pod("a", "b"), node(2), u, c.want...)
	}
}
