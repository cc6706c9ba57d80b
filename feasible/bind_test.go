package feasible_test

import (
	"fmt"
	"math/rand"
	"testing"

	"stevedore/api"
	"stevedore/feasible"
)

// podsOf is the names of a state's pods, in order.
func podsOf(s api.State) []string {
	var out []string
	for _, p := range s.Pods {
		out = append(out, p.Name)
	}
	return out
}

// 11.2: the pods of those names are gone, all of them; the others are as they were, in their order, and so is all else.
func TestWithout(t *testing.T) {
	s := kept([]api.Node{node("n", "1"), node("a", "2")}, on("n", "a", "x"), on("", "b", "x"), on("gone", "c", "y"), on("n", "d", "z"))
	for _, c := range []struct {
		names, want []string
	}{
		{nil, []string{"a", "b", "c", "d"}},
		{[]string{}, []string{"a", "b", "c", "d"}},
		{[]string{"z"}, []string{"a", "b", "c", "d"}},
		{[]string{""}, []string{"a", "b", "c", "d"}},
		{[]string{"n"}, []string{"a", "b", "c", "d"}},
		{[]string{"a"}, []string{"b", "c", "d"}},
		{[]string{"b"}, []string{"a", "c", "d"}},
		{[]string{"d"}, []string{"a", "b", "c"}},
		{[]string{"c", "z", "a"}, []string{"b", "d"}},
		{[]string{"a", "a"}, []string{"b", "c", "d"}},
		{[]string{"d", "b", "a", "c", "b"}, nil},
	} {
		got := feasible.Without(s, c.names...)
		same(t, fmt.Sprintf("without %v", c.names), podsOf(got), c.want)
		same(t, fmt.Sprintf("without %v, whole", c.names), got, withoutByWords(s, c.names))
	}
	same(t, "nothing", feasible.Without(api.State{}, "a"), api.State{})
}

// 11.2: of a name that stands twice none is left, and who stands twice and is not named stays so.
func TestWithoutTwice(t *testing.T) {
	s := kept([]api.Node{node("n", "1")}, on("n", "a", "x"), on("", "b", "x"), on("", "a", "y"), on("n", "b", "z"), on("gone", "a", "x"), on("n", "", "x"))
	same(t, "a", podsOf(feasible.Without(s, "a")), []string{"b", "b", ""})
	same(t, "b", podsOf(feasible.Without(s, "b")), []string{"a", "a", "a", ""})
	same(t, "no name", podsOf(feasible.Without(s, "")), []string{"a", "b", "a", "b", "a"})
	same(t, "all", podsOf(feasible.Without(s, "a", "", "b")), []string{})
	same(t, "a, whole", feasible.Without(s, "a"), withoutByWords(s, []string{"a"}))
}

// 11.2: the pod is bound, and nothing else is another one.
func TestBind(t *testing.T) {
	p := narrow()
	p.Priority, p.Prefers, p.Bears = 7, []api.Prefer{{Reqs: asks("zone", "2"), Weight: 3}}, []api.Bear{{Key: "gpu", Any: true}}
	s := kept([]api.Node{node("m", "1"), node("n", "2")}, on("m", "a", "x"), on("", "b", "x"), p, on("", "q", "y"))
	want := copied(s)
	want.Pods[2].Node = "n"
	same(t, "without picks", bound(t, "without picks", s, "p", "n"), want)
	want.Claims[1].Volume, want.Volumes[2].Claim = "vc", "b"
	same(t, "with a pick", bound(t, "with a pick", s, "p", "n", "b", "vc"), want)
	want.Claims[0].Volume, want.Volumes[0].Claim = "va", "a"
	same(t, "with several", bound(t, "with several", s, "p", "n", "b", "vc", "a", "va"), want)
}

// 11.2: behind a bind a pod hopes no more, wherever it hoped; others hope still.
func TestHopeIsEmpty(t *testing.T) {
	for _, hope := range []string{"", "n", "o", "not there"} {
		p, q := on("", "p", "x"), on("", "q", "x")
		p.Hope, q.Hope = hope, "n"
		u := bound(t, hope, kept([]api.Node{node("n", "1"), node("o", "1")}, p, q), "p", "n")
		same(t, "hope "+hope, []string{u.Pods[0].Node, u.Pods[0].Hope, u.Pods[1].Node, u.Pods[1].Hope}, []string{"n", "", "", "n"})
	}
}

// 11.2: a pod or a node that is not there, a pod that is bound already, there or elsewhere.
func TestBindRefused(t *testing.T) {
	s := kept([]api.Node{node("m", "1"), node("n", "1")}, on("n", "a", "x"), on("", "p", "x"), on("gone", "q", "x"))
	refused(t, "nothing", api.State{}, "p", "n", nil, api.ErrNone)
	refused(t, "nothing, no names", api.State{}, "", "", nil, api.ErrNone)
	refused(t, "no such pod", s, "x", "n", nil, api.ErrNone)
	refused(t, "no such pod, a node's name", s, "n", "n", nil, api.ErrNone)
	refused(t, "no pod's name", s, "", "n", nil, api.ErrNone)
	refused(t, "no such node", s, "p", "x", nil, api.ErrNone)
	refused(t, "no such node, a pod's name", s, "p", "p", nil, api.ErrNone)
	refused(t, "no such node, where one is bound", s, "p", "gone", nil, api.ErrNone)
	refused(t, "no node's name", s, "p", "", nil, api.ErrNone)
	refused(t, "neither", s, "x", "y", nil, api.ErrNone)
	refused(t, "bound there", s, "a", "n", nil, api.ErrArg)
	refused(t, "bound elsewhere", s, "a", "m", nil, api.ErrArg)
	refused(t, "bound to none that is there", s, "q", "n", nil, api.ErrArg)
	refused(t, "bound a moment ago", bound(t, "once", s, "p", "n"), "p", "n", nil, api.ErrArg)
	refused(t, "bound a moment ago, to the other one", bound(t, "once", s, "p", "n"), "p", "m", nil, api.ErrArg)
}

// 11.2: picks that Apply refuses, for each of its reasons.
func TestPicksRefused(t *testing.T) {
	s := kept([]api.Node{node("n", "1")}, on("", "p", "x"))
	s.Claims = append(s.Claims, api.Claim{Name: "d", Class: "k", Volume: "vd"}, api.Claim{Name: "e", Class: "other"})
	s.Volumes = append(s.Volumes, api.Volume{Name: "vd", Class: "k", Claim: "d"})
	for _, c := range []struct {
		what string
		l    []api.Pick
		want api.Errno
	}{
		{"no such claim", picks("x", "va"), api.ErrNone},
		{"no such volume", picks("a", "x"), api.ErrNone},
		{"no names", picks("", ""), api.ErrNone},
		{"the claim has a volume", picks("d", "vc"), api.ErrArg},
		{"the volume is not free", picks("a", "vd"), api.ErrArg},
		{"each other's already", picks("d", "vd"), api.ErrArg},
		{"another class", picks("e", "vc"), api.ErrArg},
		{"too small", picks("b", "va"), api.ErrArg},
		{"one claim twice", picks("a", "va", "a", "vb"), api.ErrArg},
		{"one volume twice", picks("a", "vc", "b", "vc"), api.ErrArg},
		{"the second one is not there", picks("a", "va", "b", "x"), api.ErrNone},
		{"the first one may not be, the second one is not there", picks("b", "va", "a", "x"), api.ErrArg},
		{"the first one is not there, the second one may not be", picks("x", "va", "b", "va"), api.ErrNone},
	} {
		refused(t, c.what, s, "p", "n", c.l, c.want)
	}
	u := bound(t, "behind them", s, "p", "n", "a", "va")
	same(t, "behind them", []string{u.Pods[0].Node, u.Claims[0].Volume, u.Volumes[0].Claim}, []string{"n", "va", "a"})
}

// 11.2: where several errors apply: who is not there, then who is bound, then the picks.
func TestWhichErrorCounts(t *testing.T) {
	s := kept([]api.Node{node("n", "1")}, on("n", "a", "x"), on("", "p", "x"))
	wrong, missing := picks("b", "va"), picks("x", "va")
	refused(t, "no such node, bound", s, "a", "x", nil, api.ErrNone)
	refused(t, "no such node, wrong picks", s, "p", "x", wrong, api.ErrNone)
	refused(t, "no such pod, wrong picks", s, "x", "n", wrong, api.ErrNone)
	refused(t, "no such node, bound, wrong picks", s, "a", "x", wrong, api.ErrNone)
	refused(t, "bound, picks of none", s, "a", "n", missing, api.ErrArg)
	refused(t, "bound, wrong picks", s, "a", "n", wrong, api.ErrArg)
	refused(t, "the picks alone", s, "p", "n", missing, api.ErrNone)
}

// 11.2: it is not asked whether it may: not for any reason, nor whether the picks are the plan's.
func TestBindWhereItMayNot(t *testing.T) {
	for _, x := range reasons() {
		s, p := full(), narrow()
		x.cause(&s, &p)
		s.Pods = append(s.Pods, p)
		what := fmt.Sprintf("reason %d", x.why)
		told(t, what, s, p, "n", x.why)
		want := copied(s)
		want.Pods[3].Node = "n"
		same(t, what, bound(t, what, s, "p", "n"), want)
		want.Claims[0].Volume, want.Volumes[0].Claim = "va", "a"
		same(t, what+", with a pick", bound(t, what, s, "p", "n", "a", "va"), want)
	}
}

// 11.2: of each name the first one counts; the others stay as they are.
func TestBindOfTwice(t *testing.T) {
	nodes := []api.Node{node("m", "1"), node("n", "1"), node("n", "2")}
	waits, hopes := on("", "p", "x"), on("", "p", "y")
	hopes.Hope = "m"
	s := kept(nodes, on("", "a", "x"), waits, hopes, on("m", "p", "z"))
	want := copied(s)
	want.Pods[1].Node = "n"
	same(t, "the first waits", bound(t, "the first waits", s, "p", "n"), want)
	refused(t, "the first is bound", kept(nodes, on("m", "p", "x"), waits), "p", "n", nil, api.ErrArg)
	refused(t, "the first is bound now", want, "p", "n", nil, api.ErrArg)
	s = kept(nodes, hopes, on("n", "p", "x"))
	want = copied(s)
	want.Pods[0].Node, want.Pods[0].Hope = "n", ""
	same(t, "the second is bound", bound(t, "the second is bound", s, "p", "n"), want)
	s = kept(nodes, waits)
	s.Claims = append(s.Claims, api.Claim{Name: "a", Class: "k", Volume: "vx"})
	s.Volumes = append(s.Volumes, api.Volume{Name: "va", Class: "other"})
	want = copied(s)
	want.Pods[0].Node, want.Claims[0].Volume, want.Volumes[0].Claim = "n", "va", "a"
	same(t, "claims and volumes", bound(t, "claims and volumes", s, "p", "n", "a", "va"), want)
}

// 11.2: random states, held against the words.
func TestRandomBinds(t *testing.T) {
	r := rand.New(rand.NewSource(112))
	seen, picked := map[api.Errno]int{}, 0
	for range 7000 {
		s := anyState(r)
		pod, where, l := anyPod(r, s).Name, anyNode(r), randomPicks(r, s)
		u, e := feasible.Bind(s, pod, where, l)
		want, wantE := bindByWords(s, pod, where, l)
		if e != wantE || fmt.Sprintf("%+v", u) != fmt.Sprintf("%+v", want) {
			t.Fatalf("Bind(%+v, %s, %s, %v): %+v %d, want %+v %d", s, pod, where, l, u, e, want, wantE)
		}
		seen[e]++
		if e == api.OK {
			picked += len(l)
		}
		names := []string{anyPod(r, s).Name, anyPod(r, s).Name, anyPod(r, s).Name}[:r.Intn(4)]
		if got, want := feasible.Without(s, names...), withoutByWords(s, names); fmt.Sprintf("%+v", got) != fmt.Sprintf("%+v", want) {
			t.Fatalf("Without(%+v, %v): %+v", s, names, got)
		}
	}
	if seen[api.OK] < 500 || seen[api.ErrNone] < 500 || seen[api.ErrArg] < 500 || picked < 100 {
		t.Errorf("drawn: %v %d", seen, picked)
	}
}

// Rule 4: what is handed in stays as it was, behind its ends, too, where a call is refused and where it is not; what is handed back shares no list with it.
func TestHandedInStays(t *testing.T) {
	r := rand.New(rand.NewSource(113))
	taken := 0
	for range 1500 {
		s := roomyState(anyState(r))
		p, where, l := anyPod(r, s), anyNode(r), roomy(randomPicks(r, s), api.Pick{Claim: "behind"})
		p.Claims, p.Ports = roomy(p.Claims, "behind"), roomy(p.Ports, -1)
		names := roomy([]string{p.Name, "a"}, "behind")
		type all struct {
			S     api.State
			P     api.Pod
			L     []api.Pick
			Names []string
		}
		was := opened(all{s, p, l, names})
		_, got := feasible.Check(s, p, where)
		scrawl(got, api.Pick{Claim: "scribbled"})
		scrawl(feasible.All(s, p), -1)
		scrawl(feasible.Any(s, p), "scribbled")
		scribble(feasible.Without(s, names...))
		scribble(feasible.Without(s))
		for _, m := range [][]api.Pick{l, nil, {}} {
			u, e := feasible.Bind(s, p.Name, where, m)
			scribble(u)
			if e == api.OK {
				taken++
			}
		}
		if is := opened(all{s, p, l, names}); fmt.Sprintf("%+v", is) != fmt.Sprintf("%+v", was) {
			t.Fatalf("was %+v, is %+v", was, is)
		}
	}
	if taken < 100 {
		t.Errorf("taken: %d", taken)
	}
}

// Rule 4: what is handed back stays as it is, whatever is done to what was handed in.
func TestHandedBackStays(t *testing.T) {
	start := func() api.State {
		return roomyState(kept([]api.Node{node("n", "1")}, on("", "p", "x"), on("n", "q", "x")))
	}
	for what, do := range map[string]func(s api.State) api.State{
		"Without of nothing":   func(s api.State) api.State { return feasible.Without(s) },
		"Without of one":       func(s api.State) api.State { return feasible.Without(s, "q") },
		"Bind without picks":   func(s api.State) api.State { return bound(t, "bind", s, "p", "n") },
		"Bind with some picks": func(s api.State) api.State { return bound(t, "bind", s, "p", "n", "a", "va", "b", "vc") },
	} {
		want := fmt.Sprintf("%+v", do(start()))
		s := start()
		u := do(s)
		scribble(s)
		if got := fmt.Sprintf("%+v", u); got != want {
			t.Errorf("%s: %s, want %s", what, got, want)
		}
	}
	s := kept([]api.Node{node("n", "1")})
	p := api.Pod{Name: "p", Claims: []string{"a", "b"}}
	_, l := feasible.Check(s, p, "n")
	scribble(s)
	scrawl(p.Claims, "scribbled")
	same(t, "the picks", l, picks("a", "va", "b", "vb"))
}

// P2: a call that is refused leaves nothing behind: the same state is taken as before.
func TestRefusedLeavesNothing(t *testing.T) {
	s := kept([]api.Node{node("n", "1")}, on("", "p", "x"))
	for _, l := range [][]api.Pick{picks("a", "va", "b", "va"), picks("a", "va", "x", "vb"), picks("a", "va", "b", "vb", "c", "x")} {
		if _, e := feasible.Bind(s, "p", "n", l); e == api.OK {
			t.Errorf("Bind with %v was taken", l)
		}
		same(t, "behind it", s, kept([]api.Node{node("n", "1")}, on("", "p", "x")))
		planned(t, "behind it", s, api.Pod{Name: "p", Claims: []string{"a"}}, "n", 0, picks("a", "va"))
	}
}
