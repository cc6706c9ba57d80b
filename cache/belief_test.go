package cache_test

import (
	"slices"
	"testing"

	"stevedore/api"
	"stevedore/cache"
)

// Words, 15.3: one that is assumed has that node as its Node, and hopes for nothing; all else of it is as it was told. Told has it as it was told.
func TestBeliefPods(t *testing.T) {
	for _, hope := range []string{"", "m", "n", "not-there"} {
		c := sample(t)
		p := full(api.KPod, "p", 1).Pod
		p.Hope = hope
		tell(t, c, 20, api.Changed, podOf(p))
		was := c.Told()
		same(t, "Belief ahead", c.Belief(), was)
		assume(t, c, "p", "n")
		same(t, "Told", c.Told(), was)
		at := slices.IndexFunc(was.Pods, func(p api.Pod) bool { return p.Name == "p" })
		was.Pods[at].Node, was.Pods[at].Hope = "n", ""
		same(t, "Belief", c.Belief(), was)
	}
}

// Words: a pick's claim has the volume, and the volume is the claim's; in claims, volumes and pods all else is as it was told.
func TestBeliefPicks(t *testing.T) {
	c := sample(t)
	tell(t, c, 20, api.Changed, full(api.KClaim, "c", 1))
	tell(t, c, 21, api.Changed, full(api.KVolume, "w", 2))
	want := c.Told()
	assume(t, c, "p", "n", "c", "w", "d", "v")
	same(t, "Told", c.Told(), want)
	want.Pods[1].Node = "n"
	want.Claims[0].Volume, want.Claims[1].Volume = "w", "v"
	want.Volumes[0].Claim, want.Volumes[1].Claim = "d", "c"
	same(t, "Belief", c.Belief(), want)
	same(t, "versions and sights", []int{c.Seen(api.KClaim, "c"), c.Seen(api.KVolume, "w"), c.Seen(api.KPod, "p"), c.Sight("n"), c.Sight("m")}, []int{20, 21, 5, 1, 2})
	forget(t, c, "p")
	same(t, "forgotten", c.Belief(), c.Told())
}

// Words: picks are applied as far as both are there and free, neither half alone; sizes and classes do not count.
func TestBeliefPicksThatMayNot(t *testing.T) {
	none := []string{"c=", "d=", "e=x", "v=", "w=", "x=e"}
	for _, x := range []struct {
		what  string
		picks []string
		want  []string
	}{
		{"none", nil, none},
		{"no such claim", []string{"not-there", "v"}, none},
		{"no such volume", []string{"c", "not-there"}, none},
		{"neither", []string{"not-there", "not-there"}, none},
		{"no names", []string{"", ""}, none},
		{"no claim's name", []string{"", "v"}, none},
		{"no volume's name", []string{"c", ""}, none},
		{"the other way round", []string{"v", "c"}, none},
		{"a claim that has one", []string{"e", "v"}, none},
		{"a claim that has it", []string{"e", "x"}, none},
		{"a volume that is another's", []string{"c", "x"}, none},
		{"one that may not, and one that may", []string{"c", "x", "d", "v"}, []string{"c=", "d=v", "e=x", "v=d", "w=", "x=e"}},
		{"one that may, and one that may not", []string{"d", "v", "c", "not-there"}, []string{"c=", "d=v", "e=x", "v=d", "w=", "x=e"}},
		{"one claim twice", []string{"c", "w", "c", "v"}, []string{"c=w", "d=", "e=x", "v=", "w=c", "x=e"}},
		{"one volume twice", []string{"d", "v", "c", "v"}, []string{"c=", "d=v", "e=x", "v=d", "w=", "x=e"}},
		{"one pick twice", []string{"c", "v", "c", "v"}, []string{"c=v", "d=", "e=x", "v=c", "w=", "x=e"}},
		{"a claim again, behind one that may not", []string{"c", "x", "c", "v"}, []string{"c=v", "d=", "e=x", "v=c", "w=", "x=e"}},
	} {
		c := sample(t)
		assume(t, c, "p", "n", x.picks...)
		same(t, x.what, whose(c.Belief()), x.want)
		same(t, x.what+": Told", whose(c.Told()), none)
		same(t, x.what+": the pod", where(c.Belief()), []string{"a@m", "p@n", "q@", "r@?m"})
		forget(t, c, "p")
		same(t, x.what+": forgotten", look(c), look(sample(t)))
	}
	c := cache.New()
	tell(t, c, 1, api.Added, bare(api.KNode, "n"))
	tell(t, c, 2, api.Added, on("p", ""))
	tell(t, c, 3, api.Added, claimOf(api.Claim{Name: "c", Size: 5, Class: "k"}))
	tell(t, c, 4, api.Added, volumeOf(api.Volume{Name: "v", Size: 4, Class: "l", Reqs: []api.Req{{Key: "zone", Op: api.OpExists}}}))
	assume(t, c, "p", "n", "c", "v")
	same(t, "too small, of another class, not met", whose(c.Belief()), []string{"c=v", "v=c"})
}

// Words: what is half there as it was told is not free, and stays as it was told.
func TestBeliefHalfTold(t *testing.T) {
	for _, x := range []struct{ volume, claim string }{{"v", ""}, {"", "c"}, {"v", "c"}, {"w", ""}, {"", "d"}, {"not-there", ""}, {"", "not-there"}} {
		c := sample(t)
		assume(t, c, "p", "n", "c", "v")
		tell(t, c, 20, api.Changed, claimOf(api.Claim{Name: "c", Volume: x.volume}))
		tell(t, c, 21, api.Changed, volumeOf(api.Volume{Name: "v", Claim: x.claim}))
		same(t, "Belief", whose(c.Belief()), []string{"c=" + x.volume, "d=", "e=x", "v=" + x.claim, "w=", "x=e"})
		same(t, "Told", whose(c.Told()), whose(c.Belief()))
	}
}

// Words: picks are applied to what is there and free when the belief is asked for, not when the pod was assumed.
func TestBeliefPicksLater(t *testing.T) {
	c := sample(t)
	assume(t, c, "p", "n", "c", "new", "e", "w", "d", "v")
	same(t, "ahead", whose(c.Belief()), []string{"c=", "d=v", "e=x", "v=d", "w=", "x=e"})
	tell(t, c, 20, api.Added, bare(api.KVolume, "new"))
	same(t, "it comes", whose(c.Belief()), []string{"c=new", "d=v", "e=x", "new=c", "v=d", "w=", "x=e"})
	tell(t, c, 21, api.Changed, bare(api.KClaim, "e"))
	same(t, "it is free", whose(c.Belief()), []string{"c=new", "d=v", "e=w", "new=c", "v=d", "w=e", "x=e"})
	tell(t, c, 22, api.Removed, bare(api.KVolume, "v"))
	tell(t, c, 23, api.Changed, claimOf(api.Claim{Name: "c", Volume: "x"}))
	same(t, "one goes, one is taken", whose(c.Belief()), []string{"c=x", "d=", "e=w", "new=", "w=e", "x=e"})
	list(t, c, api.KVolume, stateOf(bare(api.KVolume, "v"), bare(api.KVolume, "new")), nil, nil)
	same(t, "listed", whose(c.Belief()), []string{"c=x", "d=v", "e=", "new=", "v=d"})
}

// Words: of two pods that want one volume, or one claim, the first one by name has it, whoever was assumed first; when that one goes the other has it.
func TestBeliefPicksOfTwo(t *testing.T) {
	for _, first := range []bool{true, false} {
		c := sample(t)
		if first {
			assume(t, c, "p", "n", "d", "v")
		}
		assume(t, c, "q", "m", "c", "v", "e", "w")
		if !first {
			assume(t, c, "p", "n", "d", "v")
		}
		same(t, "one volume", whose(c.Belief()), []string{"c=", "d=v", "e=x", "v=d", "w=", "x=e"})
		same(t, "both are placed", where(c.Belief()), []string{"a@m", "p@n", "q@m", "r@?m"})
		d := c.Clone()
		forget(t, d, "p")
		same(t, "the other one has it then", whose(d.Belief()), []string{"c=v", "d=", "e=x", "v=c", "w=", "x=e"})
		forget(t, c, "q")
		same(t, "the first one has it still", whose(c.Belief()), []string{"c=", "d=v", "e=x", "v=d", "w=", "x=e"})

		c = sample(t)
		if first {
			assume(t, c, "p", "n", "c", "w")
		}
		assume(t, c, "q", "n", "c", "v", "d", "v")
		if !first {
			assume(t, c, "p", "n", "c", "w")
		}
		same(t, "one claim", whose(c.Belief()), []string{"c=w", "d=v", "e=x", "v=d", "w=c", "x=e"})
	}
}

// 15.3: a state's objects rise by name, in what is believed and in what is told, whichever way they came.
func TestStatesRise(t *testing.T) {
	names := []string{"b", "\xff", "a", "Z", "a\x00", "10", "9", "aa"}
	sorted := slices.Sorted(slices.Values(names))
	for _, listed := range []bool{false, true} {
		c := cache.New()
		var all []api.Object
		for _, kind := range allKinds() {
			for _, name := range names {
				all = append(all, bare(kind, name))
				if !listed {
					tell(t, c, 1, api.Added, bare(kind, name))
				}
			}
		}
		for _, kind := range allKinds() {
			if listed {
				list(t, c, kind, stateOf(all...), nil, nil)
			}
		}
		for _, name := range names {
			assume(t, c, name, "Z", name, name)
		}
		var want, believed []api.Object
		for _, kind := range allKinds() {
			for _, name := range sorted {
				o := bare(kind, name)
				want = append(want, o)
				switch kind {
				case api.KPod:
					o.Pod.Node = "Z"
				case api.KVolume:
					o.Volume.Claim = name
				case api.KClaim:
					o.Claim.Volume = name
				}
				believed = append(believed, o)
			}
		}
		same(t, "Told", c.Told(), stateOf(want...))
		same(t, "Belief", c.Belief(), stateOf(believed...))
		assumedIs(t, "all", c, sorted...)
	}
}

// Words: one that is assumed on a node that goes is believed there still; another pod of the node, too.
func TestBeliefWithoutNode(t *testing.T) {
	c := sample(t)
	assume(t, c, "p", "m", "c", "v")
	tell(t, c, 20, api.Removed, bare(api.KNode, "m"))
	same(t, "Belief", where(c.Belief()), []string{"a@m", "p@m", "q@", "r@?m"})
	same(t, "picks", whose(c.Belief()), []string{"c=v", "d=", "e=x", "v=c", "w=", "x=e"})
}

// 15.3: Seen tells the version of what is known, assumed or not; 0 of what is not, of kinds that there are not, and of names of other kinds.
func TestSeen(t *testing.T) {
	c := sample(t)
	assume(t, c, "p", "n", "c", "v")
	for k, o := range sampleObjects() {
		for _, kind := range append(allKinds(), noKinds()...) {
			want := 0
			if kind == o.Kind {
				want = k + 1
			}
			same(t, nameOf(o)+": Seen", c.Seen(kind, nameOf(o)), want)
		}
	}
	for _, name := range []string{"", "not-there", "P", "n\x00", "nn"} {
		for _, kind := range append(allKinds(), noKinds()...) {
			same(t, name+": Seen", c.Seen(kind, name), 0)
		}
		same(t, name+": Sight", c.Sight(name), 0)
	}
}

// 15.5: Assume and Forget leave the belief as it was, and all else; so do Assume, Arm and Expire.
func TestAssumeAndForget(t *testing.T) {
	for _, picks := range [][]string{nil, {"c", "v"}, {"c", "v", "d", "w"}, {"e", "x", "not-there", "v"}} {
		c := sample(t)
		assume(t, c, "r", "m", "c", "w")
		arm(t, c, "r", 20)
		was := look(c)
		assume(t, c, "p", "n", picks...)
		forget(t, c, "p")
		same(t, "assumed and forgotten", look(c), was)
		assume(t, c, "p", "n", picks...)
		arm(t, c, "p", 3)
		forget(t, c, "p")
		same(t, "assumed, armed and forgotten", look(c), was)
		assume(t, c, "p", "n", picks...)
		arm(t, c, "p", 3)
		expireIs(t, "assumed, armed and expired", c, 19, "p")
		same(t, "assumed, armed and expired", look(c), was)
	}
}

// 15.5: a pod that is told to be bound where it was assumed, and claims and volumes that are told to be as they were picked, change nothing of where the belief has them, in whatever order they are told.
func TestToldAsAssumed(t *testing.T) {
	l := []api.Object{on("r", "n"), claimOf(api.Claim{Name: "c", Volume: "v"}), volumeOf(api.Volume{Name: "v", Claim: "c"})}
	for _, order := range [][]int{{1, 2, 0}, {2, 1, 0}} {
		c := sample(t)
		assume(t, c, "r", "n", "c", "v")
		was := c.Belief()
		same(t, "assumed", []any{where(was)[3], whose(was)}, []any{"r@n", []string{"c=v", "d=", "e=x", "v=c", "w=", "x=e"}})
		for k, at := range order {
			tell(t, c, 20+k, api.Changed, l[at])
			if k > 0 { // one of the two alone is not free any more, and the other one is told apart
				same(t, "Belief", c.Belief(), was)
			}
		}
		assumedIs(t, "told", c)
		same(t, "Told", c.Told(), was)
	}
	for _, armed := range []bool{false, true} {
		c := sample(t)
		assume(t, c, "r", "n")
		if armed {
			arm(t, c, "r", 1)
		}
		was := c.Belief()
		tell(t, c, 20, api.Changed, on("r", "n"))
		same(t, "a pod alone", c.Belief(), was)
		c.Expire(lastNow)
		same(t, "whatever would have expired", c.Belief(), was)
	}
}
