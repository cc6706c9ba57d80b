package volume_test

import (
	"fmt"
	"math"
	"math/rand"
	"slices"
	"testing"

	"stevedore/api"
	"stevedore/volume"
)

// change is Apply or Undo, with what the words say of it.
type change struct {
	name        string
	do, byWords func(api.State, []api.Pick) (api.State, api.Errno)
}

func changes() []change {
	return []change{{"Apply", volume.Apply, applyByWords}, {"Undo", volume.Undo, undoByWords}}
}

// refused asks for an error, and no state.
func refused(t *testing.T, what string, x change, s api.State, l []api.Pick, want api.Errno) {
	t.Helper()
	u, e := x.do(s, l)
	same(t, x.name+" of "+what, []any{e, u}, []any{want, api.State{}})
	_, e = x.byWords(s, l)
	same(t, x.name+" by the words, of "+what, e, want)
}

// taken asks for a state with those pairs, as they stand in its lists, and everything else as it was.
func taken(t *testing.T, what string, x change, s api.State, l []api.Pick, claims, volumes []string) {
	t.Helper()
	u, e := x.do(s, l)
	same(t, x.name+" of "+what, e, api.OK)
	want := copied(s)
	for k, v := range claims {
		want.Claims[k].Volume = v
	}
	for k, c := range volumes {
		want.Volumes[k].Claim = c
	}
	same(t, x.name+" of "+what, u, want)
	u, _ = x.byWords(s, l)
	same(t, x.name+" by the words, of "+what, u, want)
}

// three is claims and volumes of which each claim fits each volume, and something of each kind.
func three() api.State {
	return fullState(state([]api.Claim{claim("a", 1, ""), claim("b", 1, ""), claim("c", 1, "")}, vol("v", 1, ""), volIn("2", "w", 1, ""), vol("x", 2, "")))
}

// given is three with v, w and x given to a, b and c.
func given() api.State {
	s := three()
	for k := range 3 {
		s.Claims[k].Volume, s.Volumes[k].Claim = s.Volumes[k].Name, s.Claims[k].Name
	}
	return s
}

// 10.2: nothing, one, several.
func TestApply(t *testing.T) {
	x := changes()[0]
	for _, none := range [][]api.Pick{nil, {}} {
		for _, s := range []api.State{{}, three(), given(), state([]api.Claim{claim("c", 1, "gone"), claim("c", 1, "")}, vol("v", 1, "x"))} {
			taken(t, "nothing", x, s, none, nil, nil)
		}
	}
	taken(t, "one", x, three(), picks("b", "v"), []string{"", "v", ""}, []string{"b", "", ""})
	taken(t, "the last ones", x, three(), picks("c", "x"), []string{"", "", "x"}, []string{"", "", "c"})
	taken(t, "two", x, three(), picks("c", "v", "a", "w"), []string{"w", "", "v"}, []string{"c", "a", ""})
	taken(t, "all", x, three(), picks("c", "x", "b", "w", "a", "v"), []string{"v", "w", "x"}, []string{"a", "b", "c"})
	// Neither the class's Wait nor the volume's Reqs are asked.
	s := api.State{Claims: []api.Claim{{Name: "a", Size: 1, Class: "gone"}, {Name: "b"}}, Volumes: []api.Volume{{Name: "v", Size: 1, Class: "gone", Reqs: []api.Req{{Op: 9}}}, {Name: "w"}}}
	taken(t, "a class that is not there", x, s, picks("a", "v", "b", "w"), []string{"v", "w"}, []string{"a", "b"})
}

// 10.2: what of sizes and classes is taken.
func TestApplySizesAndClasses(t *testing.T) {
	for _, c := range []struct {
		claim, volume int
		of            string
		want          api.Errno
	}{
		{5, 5, "k", api.OK}, {5, 6, "k", api.OK}, {5, 4, "k", api.ErrArg}, {0, 0, "k", api.OK}, {0, -1, "k", api.ErrArg}, {-1, 0, "k", api.OK}, {-2, -1, "k", api.OK},
		{api.MaxAmount, api.MaxAmount, "k", api.OK}, {api.MaxAmount + 1, api.MaxAmount, "k", api.ErrArg}, {math.MinInt, math.MaxInt, "k", api.OK}, {math.MaxInt, math.MinInt, "k", api.ErrArg},
		{5, 5, "now", api.ErrArg}, {5, 5, "", api.ErrArg}, {5, 5, "kk", api.ErrArg}, {5, 4, "now", api.ErrArg},
	} {
		v := vol("v", c.volume, "")
		v.Class = c.of
		s := state([]api.Claim{claim("c", c.claim, "")}, v)
		what := fmt.Sprintf("%d into %d of %q", c.claim, c.volume, c.of)
		if c.want == api.OK {
			taken(t, what, changes()[0], s, picks("c", "v"), []string{"v"}, []string{"c"})
		} else {
			refused(t, what, changes()[0], s, picks("c", "v"), c.want)
		}
	}
}

// 10.2: what may not be, alone and behind others; the same claim, or the same volume, twice.
func TestApplyRefuses(t *testing.T) {
	x := changes()[0]
	s := three()
	for what, l := range map[string][]api.Pick{
		"the same claim twice":          picks("a", "v", "a", "w"),
		"the same volume twice":         picks("a", "v", "b", "v"),
		"the same pick twice":           picks("a", "v", "a", "v"),
		"the same claim, another first": picks("b", "x", "a", "v", "a", "w"),
		"the same volume, the last one": picks("a", "v", "b", "w", "c", "v"),
		"one that may not, then none":   picks("a", "v", "b", "v", "n", "n"),
	} {
		refused(t, what, x, s, l, api.ErrArg)
	}
	for what, l := range map[string][]api.Pick{
		"no such claim": picks("n", "v"), "no such volume": picks("a", "n"), "neither": picks("n", "n"), "no names": picks("", ""), "no claim's name": picks("", "v"), "no volume's name": picks("a", ""),
		"the wrong way round": picks("v", "a"), "none behind one": picks("a", "v", "n", "w"), "none behind two": picks("a", "v", "b", "w", "c", "n"), "none ahead of one that may not": picks("n", "v", "a", "v", "a", "v"),
		"no such volume, for one that has one": picks("a", "v", "a", "n"),
	} {
		refused(t, what, x, s, l, api.ErrNone)
	}
	refused(t, "one, to no state", x, api.State{}, picks("a", "v"), api.ErrNone)
	has := state([]api.Claim{claim("a", 1, "v"), claim("b", 1, "gone"), claim("c", 1, "")}, vol("v", 1, "a"), vol("w", 1, ""), vol("x", 1, "gone"))
	for what, l := range map[string][]api.Pick{
		"one that has it": picks("a", "v"), "one that has another": picks("a", "w"), "one that has what is not there": picks("b", "w"), "what is another's": picks("c", "v"),
		"what is one's that is not there": picks("c", "x"), "what is another's, behind one": picks("c", "w", "c", "v"),
	} {
		refused(t, what, x, has, l, api.ErrArg)
	}
	refused(t, "one that has another, and no such volume", x, has, picks("a", "n"), api.ErrNone)
	refused(t, "what is another's, and no such claim", x, has, picks("n", "v"), api.ErrNone)
	taken(t, "what is left", x, has, picks("c", "w"), []string{"v", "gone", "w"}, []string{"a", "c", "gone"})
}

// 10.2: nothing, one, several.
func TestUndo(t *testing.T) {
	x := changes()[1]
	for _, none := range [][]api.Pick{nil, {}} {
		for _, s := range []api.State{{}, three(), given(), state([]api.Claim{claim("c", 1, "gone"), claim("c", 1, "")}, vol("v", 1, "x"))} {
			taken(t, "nothing", x, s, none, nil, nil)
		}
	}
	taken(t, "one", x, given(), picks("b", "w"), []string{"v", "", "x"}, []string{"a", "", "c"})
	taken(t, "two", x, given(), picks("c", "x", "a", "v"), []string{"", "w", ""}, []string{"", "b", ""})
	taken(t, "all", x, given(), picks("a", "v", "b", "w", "c", "x"), []string{"", "", ""}, []string{"", "", ""})
	// Neither sizes nor classes are asked.
	s := state([]api.Claim{claim("c", 9, "v")}, api.Volume{Name: "v", Class: "other", Claim: "c"})
	taken(t, "what does not fit", x, s, picks("c", "v"), []string{""}, []string{""})
}

// 10.2: what are not each other's; from the last one on.
func TestUndoRefuses(t *testing.T) {
	x := changes()[1]
	s := state([]api.Claim{claim("a", 1, "v"), claim("b", 1, "w"), claim("c", 1, "x"), claim("d", 1, "")}, vol("v", 1, "a"), vol("w", 1, "c"), vol("x", 1, ""), vol("y", 1, "d"), vol("z", 1, ""))
	for what, l := range map[string][]api.Pick{
		"the volume another's": picks("b", "w"), "the volume free": picks("c", "x"), "the claim has another": picks("c", "w"), "the claim has none": picks("d", "y"), "both have nothing": picks("d", "z"),
		"each another's": picks("a", "w"), "one that has one, one that is free": picks("a", "z"), "the same twice": picks("a", "v", "a", "v"), "behind one": picks("a", "v", "b", "w"), "ahead of one": picks("b", "w", "a", "v"),
		"what was given back":             picks("a", "z", "a", "v"),
		"not each other's, behind no one": picks("n", "v", "b", "w"),
	} {
		refused(t, what, x, s, l, api.ErrArg)
	}
	for what, l := range map[string][]api.Pick{
		"no such claim": picks("n", "v"), "no such volume": picks("a", "n"), "neither": picks("n", "n"), "no names": picks("", ""), "none ahead of one": picks("n", "v", "a", "v"), "none behind one": picks("a", "v", "a", "n"),
		"none behind what are not each other's": picks("b", "w", "a", "n"),
	} {
		refused(t, what, x, s, l, api.ErrNone)
	}
	refused(t, "one, of no state", x, api.State{}, picks("a", "v"), api.ErrNone)
	taken(t, "what are", x, s, picks("a", "v"), []string{"", "w", "x", ""}, []string{"", "c", "", "d", ""})
}

// 10.2: names that stand twice in the state: the first one counts, and the second one stays as it is.
func TestChangesOfFirstOnes(t *testing.T) {
	apply, undo := changes()[0], changes()[1]
	two := func(a, b, v, w string) api.State {
		return state([]api.Claim{claim("c", 1, a), claim("c", 1, b)}, vol("v", 1, v), vol("v", 1, w))
	}
	taken(t, "the first ones", apply, two("", "", "", ""), picks("c", "v"), []string{"v", ""}, []string{"c", ""})
	taken(t, "the first ones, the others not", apply, two("", "x", "", "x"), picks("c", "v"), []string{"v", "x"}, []string{"c", "x"})
	refused(t, "a second claim that may", apply, two("x", "", "", ""), picks("c", "v"), api.ErrArg)
	refused(t, "a second volume that may", apply, two("", "", "x", ""), picks("c", "v"), api.ErrArg)
	refused(t, "one name is one volume", apply, two("", "", "", ""), picks("c", "v", "c", "v"), api.ErrArg)
	taken(t, "the first ones", undo, two("v", "v", "c", "c"), picks("c", "v"), []string{"", "v"}, []string{"", "c"})
	refused(t, "a second claim that may", undo, two("x", "v", "c", "c"), picks("c", "v"), api.ErrArg)
	refused(t, "a second volume that may", undo, two("v", "v", "x", "c"), picks("c", "v"), api.ErrArg)
	refused(t, "one name is one volume", undo, two("v", "v", "c", "c"), picks("c", "v", "c", "v"), api.ErrArg)
	small := two("", "", "", "")
	small.Volumes[0].Size = 0
	refused(t, "a second volume that is great enough", apply, small, picks("c", "v"), api.ErrArg)
	other := two("", "", "", "")
	other.Claims[0].Class = "other"
	refused(t, "a second claim of the class", apply, other, picks("c", "v"), api.ErrArg)
}

// 10.2: random ones, held against the words.
func TestRandomChanges(t *testing.T) {
	for _, x := range changes() {
		r := rand.New(rand.NewSource(102))
		seen := map[api.Errno]int{}
		several := 0
		for n := range 20000 {
			s := anyState(r)
			if n%5 == 0 {
				s = nameless(r, s)
			}
			l := randomPicks(r, s)
			u, e := x.do(s, l)
			want, wantE := x.byWords(s, l)
			if e != wantE || fmt.Sprintf("%+v", u) != fmt.Sprintf("%+v", want) {
				t.Fatalf("%s(%+v, %v): %+v %d, want %+v %d", x.name, s, l, u, e, want, wantE)
			}
			seen[e]++
			if e == api.OK && len(l) > 1 {
				several++
			}
		}
		if seen[api.OK] < 1000 || seen[api.ErrNone] < 1000 || seen[api.ErrArg] < 1000 || several < 50 {
			t.Errorf("%s, drawn: %v %d", x.name, seen, several)
		}
	}
}

// 10.1, 10.2, 10.3: what is handed in stays as it was, behind its ends, too, where a call is refused and where it is not.
func TestHandedInStays(t *testing.T) {
	r := rand.New(rand.NewSource(103))
	for range 2000 {
		s := fullState(anyState(r))
		p, i, l := randomPod(r, s), randomInfo(r), roomy(randomPicks(r, s), api.Pick{Claim: "behind"})
		p.Claims, i.Disks = roomy(p.Claims, "behind"), roomy(i.Disks, "behind")
		type all struct {
			S api.State
			P api.Pod
			I api.Info
			L []api.Pick
		}
		was := opened(all{s, p, i, l})
		got, _ := volume.Plan(p, i, s)
		scrawl(got, api.Pick{Claim: "scribbled"})
		scrawl(volume.Free(s), "scribbled")
		volume.Check(s)
		for _, x := range changes() {
			for _, m := range [][]api.Pick{l, nil, {}} {
				u, _ := x.do(s, m)
				scribble(u)
			}
		}
		if is := opened(all{s, p, i, l}); fmt.Sprintf("%+v", is) != fmt.Sprintf("%+v", was) {
			t.Fatalf("was %+v, is %+v", was, is)
		}
	}
}

// 10.2: what is handed back stays as it is, whatever is done to what was handed in.
func TestHandedBackStays(t *testing.T) {
	for _, x := range changes() {
		for what, l := range map[string][]api.Pick{"nothing": nil, "one": picks("a", "v"), "all": picks("a", "v", "b", "w", "c", "x")} {
			s := three()
			if x.name == "Undo" {
				s = given()
			}
			want, _ := x.byWords(s, l)
			want = opened(want)
			u, e := x.do(s, l)
			scribble(s)
			scrawl(l, api.Pick{Claim: "scribbled"})
			same(t, x.name+" of "+what, e, api.OK)
			clip := want
			clip.Pods, clip.Nodes, clip.Classes, clip.Budgets = want.Pods[:2], want.Nodes[:1], want.Classes[:2], want.Budgets[:1]
			clip.Claims, clip.Volumes = want.Claims[:3], want.Volumes[:3]
			same(t, x.name+" of "+what, u, clip)
		}
	}
}

// 10.2: a call that is refused leaves nothing behind: the same state is taken as before.
func TestRefusedLeavesNothing(t *testing.T) {
	s := three()
	for _, l := range [][]api.Pick{picks("a", "v", "b", "v"), picks("a", "v", "n", "w"), picks("a", "v", "b", "w", "c", "n")} {
		if _, e := volume.Apply(s, l); e == api.OK {
			t.Errorf("Apply of %v was taken", l)
		}
		same(t, "free behind it", volume.Free(s), []string{"v", "w", "x"})
		taken(t, "one behind a refused one", changes()[0], s, picks("a", "v"), []string{"v", "", ""}, []string{"a", "", ""})
	}
	g := given()
	for _, l := range [][]api.Pick{picks("a", "w", "a", "v"), picks("n", "v", "a", "v"), picks("a", "v", "a", "v")} {
		if _, e := volume.Undo(g, l); e == api.OK {
			t.Errorf("Undo of %v was taken", l)
		}
		if len(volume.Free(g)) != 0 || !slices.Equal(g.Claims, given().Claims) {
			t.Errorf("Undo of %v: %+v", l, g)
		}
	}
}
