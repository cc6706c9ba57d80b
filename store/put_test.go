package store_test

import (
	"fmt"
	"testing"

	"stevedore/api"
)

// 12.1: a new object of each kind, one that is there, and one that changes nothing: a change each.
func TestPut(t *testing.T) {
	words := []string{"", "pod", "node", "volume", "claim", "class", "budget"}
	for _, kind := range allKinds() {
		x := opened(t, sample())
		what := fmt.Sprint("kind ", kind, ": ")
		taken(t, what+"new", x, put(x, full(kind, "new")), "+ "+words[kind]+" new")
		o, v, e := x.Get(kind, "new")
		same(t, what+"Get", []any{o, v, int(e)}, []any{full(kind, "new"), 1, 0})
		taken(t, what+"the same again", x, put(x, full(kind, "new")), "~ "+words[kind]+" new")
		o, v, e = x.Get(kind, "new")
		same(t, what+"Get the same", []any{o, v, int(e)}, []any{full(kind, "new"), 2, 0})
		taken(t, what+"another", x, put(x, bare(kind, "new")), "~ "+words[kind]+" new")
		o, v, e = x.Get(kind, "new")
		same(t, what+"Get another", []any{o, v, int(e)}, []any{bare(kind, "new"), 3, 0})
		same(t, what+"Log", []api.Object{x.Log(0)[0].Object, x.Log(0)[1].Object, x.Log(0)[2].Object}, []api.Object{full(kind, "new"), full(kind, "new"), bare(kind, "new")})
		taken(t, what+"a first one", x, put(x, bare(kind, "-")), "+ "+words[kind]+" -")
		same(t, what+"in order", x.Versions(kind)[0], api.Item{Key: "-", Seq: 4})
	}
}

// 12.1: wrong objects of each kind, new and there, and at the greatest number: what chapter 4 says.
func TestPutWrong(t *testing.T) {
	x := opened(t, sample())
	here := []string{"", "p", "n", "va", "ca", "k", "g"}
	for _, kind := range allKinds() {
		for _, name := range []string{"", "A", "no word", "new!", "123456789012345678901234567890123"} {
			refused(t, fmt.Sprintf("kind %d named %q", kind, name), x, put(x, bare(kind, name)), api.ErrObject)
		}
		for _, name := range []string{"new", here[kind]} {
			for _, other := range allKinds() {
				o := full(kind, name)
				if other == kind {
					continue
				}
				y := full(other, "y")
				o.Pod, o.Node, o.Volume, o.Claim, o.Class, o.Budget = orElse(o, y)
				refused(t, fmt.Sprint("kind ", kind, " named ", name, " with something of kind ", other), x, put(x, o), api.ErrObject)
			}
		}
		for _, no := range noKinds() {
			o := full(kind, here[kind])
			o.Kind = no
			refused(t, fmt.Sprint("kind ", no), x, put(x, o), api.ErrArg)
		}
	}
	for what, o := range map[string]api.Object{
		"a priority that there is not":        podOf(api.Pod{Name: "p", Priority: api.MaxPriority + 1}),
		"ports that fall":                     podOf(api.Pod{Name: "new", Ports: []int{2, 1}}),
		"a node that is no name":              podOf(api.Pod{Name: "p", Node: "X"}),
		"a hope that is no name":              podOf(api.Pod{Name: "new", Hope: "!"}),
		"a claim's volume that is no name":    claimOf(api.Claim{Name: "ca", Class: "k", Volume: "V"}),
		"a volume's claim that is no name":    volumeOf(api.Volume{Name: "va", Class: "k", Claim: "C"}),
		"a volume without a class":            volumeOf(api.Volume{Name: "va"}),
		"a node that gives less than nothing": nodeOf(api.Node{Name: "n", Give: api.Res{CPU: -1}}),
		"a budget of less than nothing":       {Kind: api.KBudget, Budget: api.Budget{Name: "g", Least: -1}},
	} {
		refused(t, what, x, put(x, o), api.ErrObject)
	}
}

// orElse is the members of o, and those of y where o's kind has none.
func orElse(o, y api.Object) (api.Pod, api.Node, api.Volume, api.Claim, api.Class, api.Budget) {
	members := []*api.Object{nil, nil, nil, nil, nil, nil, nil}
	for k := range members {
		members[k] = &y
	}
	members[o.Kind] = &o
	return members[1].Pod, members[2].Node, members[3].Volume, members[4].Claim, members[5].Class, members[6].Budget
}

// 12.1: at the greatest number nothing new comes, but what is there may be put; a wrong object is wrong still.
func TestPutMost(t *testing.T) {
	for _, kind := range allKinds() {
		x := opened(t, stateOf(many(kind, 255)...))
		what := fmt.Sprint("kind ", kind, ": ")
		comesTo(t, what+"the last one", put(x, bare(kind, "z")), 1)
		refused(t, what+"one more", x, put(x, bare(kind, "a")), api.ErrLong)
		refused(t, what+"one more, and wrong", x, put(x, bare(kind, "A")), api.ErrObject)
		comesTo(t, what+"one that is there", put(x, full(kind, "w10007")), 2)
		for _, other := range allKinds() {
			if other != kind {
				comesTo(t, what+"another kind", put(x, bare(other, "a")), x.Version()+1)
			}
		}
		comesTo(t, what+"room", del(x, kind, "w10100"), 8)
		comesTo(t, what+"one more now", put(x, bare(kind, "a")), 9)
		refused(t, what+"yet one more", x, put(x, bare(kind, "b")), api.ErrLong)
	}
}

// comesTo asks for no error, and for that version.
func comesTo(t *testing.T, what string, do func() (int, api.Errno), want int) {
	t.Helper()
	n, e := do()
	same(t, what, []int{n, int(e)}, []int{want, 0})
}

// 12.1: what users may not write is kept as it was; of a new object it is empty.
func TestPutKeeps(t *testing.T) {
	x := opened(t, sample())
	taken(t, "a new pod", x, put(x, podOf(api.Pod{Name: "new", Node: "n", Hope: "m", Priority: 4})), "+ pod new")
	taken(t, "a new pod on a node that is not there", x, put(x, podOf(api.Pod{Name: "new2", Node: "not-there"})), "+ pod new2")
	taken(t, "a new volume", x, put(x, volumeOf(api.Volume{Name: "new", Class: "k", Claim: "ca"})), "+ volume new")
	taken(t, "a new claim", x, put(x, claimOf(api.Claim{Name: "new", Class: "k", Volume: "va"})), "+ claim new")
	taken(t, "a bound pod elsewhere", x, put(x, podOf(api.Pod{Name: "a", Node: "m", Hope: "o", Priority: 8})), "~ pod a @n")
	taken(t, "a bound pod nowhere", x, put(x, podOf(api.Pod{Name: "a", Priority: 7})), "~ pod a @n")
	taken(t, "a pod that hopes, bound", x, put(x, podOf(api.Pod{Name: "q", Node: "m", Hope: "m"})), "~ pod q ?o")
	taken(t, "a pod that hopes, not", x, put(x, podOf(api.Pod{Name: "q"})), "~ pod q ?o")
	taken(t, "a pod that waits, bound", x, put(x, podOf(api.Pod{Name: "p", Node: "m", Hope: "m"})), "~ pod p")
	taken(t, "a claim that has a volume", x, put(x, claimOf(api.Claim{Name: "cx", Size: 99, Class: "l", Volume: "va"})), "~ claim cx =vx")
	taken(t, "the same without", x, put(x, claimOf(api.Claim{Name: "cx", Size: 7, Class: "l"})), "~ claim cx =vx")
	taken(t, "a claim that has none", x, put(x, claimOf(api.Claim{Name: "ca", Class: "k", Volume: "va"})), "~ claim ca")
	taken(t, "a volume that is a claim's", x, put(x, volumeOf(api.Volume{Name: "vx", Size: 1, Class: "l", Claim: "ca"})), "~ volume vx =cx")
	taken(t, "the same without", x, put(x, volumeOf(api.Volume{Name: "vx", Size: 2, Class: "l"})), "~ volume vx =cx")
	taken(t, "a volume that is free", x, put(x, volumeOf(api.Volume{Name: "va", Class: "k", Claim: "ca"})), "~ volume va")
	o, _, _ := x.Get(api.KPod, "a")
	same(t, "the rest of the pod is taken", o.Pod, api.Pod{Name: "a", Node: "n", Priority: 7})
	o, _, _ = x.Get(api.KClaim, "cx")
	same(t, "the rest of the claim is taken", o.Claim, api.Claim{Name: "cx", Size: 7, Class: "l", Volume: "vx"})
	o, _, _ = x.Get(api.KVolume, "vx")
	same(t, "the rest of the volume is taken", o.Volume, api.Volume{Name: "vx", Size: 2, Class: "l", Claim: "cx"})
}

// 12.1: what was removed is a new one when it is put again.
func TestPutAgain(t *testing.T) {
	x := opened(t, sample())
	comesTo(t, "a bound pod goes", del(x, api.KPod, "a"), 1)
	taken(t, "and comes again", x, put(x, podOf(api.Pod{Name: "a", Node: "n"})), "+ pod a")
	comesTo(t, "a claim goes", del(x, api.KClaim, "cx"), 4)
	taken(t, "and comes again", x, put(x, claimOf(api.Claim{Name: "cx", Class: "k", Volume: "vx"})), "+ claim cx")
	o, _, _ := x.Get(api.KVolume, "vx")
	same(t, "its volume is free", o.Volume.Claim, "")
}

// 12.1: an object of each kind goes, as it was.
func TestDelete(t *testing.T) {
	for kind, line := range map[int]string{api.KPod: "- pod new", api.KNode: "- node new", api.KVolume: "- volume new", api.KClaim: "- claim new", api.KClass: "- class new", api.KBudget: "- budget new"} {
		x := opened(t, sample())
		comesTo(t, line, put(x, full(kind, "new")), 1)
		taken(t, line, x, del(x, kind, "new"), line)
		same(t, line+": as it was", x.Log(1)[0].Object, full(kind, "new"))
		same(t, line+": the state", x.State(), sample())
		_, _, e := x.Get(kind, "new")
		same(t, line+": Get", int(e), int(api.ErrNone))
		refused(t, line+" once more", x, del(x, kind, "new"), api.ErrNone)
	}
}

// 12.1: a kind or a name that there is not.
func TestDeleteNone(t *testing.T) {
	x := opened(t, sample())
	for _, kind := range noKinds() {
		for _, name := range []string{"p", "", "not-there"} {
			refused(t, fmt.Sprint("kind ", kind, " ", name), x, del(x, kind, name), api.ErrArg)
		}
	}
	for _, kind := range allKinds() {
		for _, name := range []string{"not-there", "", "A!"} {
			refused(t, fmt.Sprint("kind ", kind, " ", name), x, del(x, kind, name), api.ErrNone)
		}
	}
	for name, kind := range map[string]int{"n": api.KPod, "p": api.KNode, "ca": api.KVolume, "va": api.KClaim, "g": api.KClass, "k": api.KBudget} {
		refused(t, "one of another kind: "+name, x, del(x, kind, name), api.ErrNone)
	}
}

// 12.1: claims and volumes part ahead of the one that goes.
func TestDeletePairs(t *testing.T) {
	x := opened(t, sample())
	taken(t, "a claim that has none", x, del(x, api.KClaim, "ca"), "- claim ca")
	taken(t, "a volume that is free", x, del(x, api.KVolume, "va"), "- volume va")
	taken(t, "a claim that has one", x, del(x, api.KClaim, "cx"), "~ volume vx", "- claim cx =vx")
	taken(t, "a volume that is a claim's", x, del(x, api.KVolume, "vy"), "~ claim cy", "- volume vy =cy")
	same(t, "volumes", x.Versions(api.KVolume), []api.Item{{Key: "vb"}, {Key: "vc"}, {Key: "vx", Seq: 3}})
	same(t, "claims", x.Versions(api.KClaim), []api.Item{{Key: "cb"}, {Key: "cc"}, {Key: "cy", Seq: 5}})
	o, v, _ := x.Get(api.KVolume, "vx")
	same(t, "the volume has the rest still", []any{o.Volume, v}, []any{api.Volume{Name: "vx", Size: 4, Class: "k"}, 3})
	o, v, _ = x.Get(api.KClaim, "cy")
	same(t, "the claim has the rest still", []any{o.Claim, v}, []any{api.Claim{Name: "cy", Size: 5, Class: "k"}, 5})
	taken(t, "the volume that was its", x, del(x, api.KVolume, "vx"), "- volume vx")
	taken(t, "a class that is used", x, del(x, api.KClass, "k"), "- class k")
}

// 12.1: a node's pods go ahead of it, rising by name, and nobody else.
func TestDeleteNode(t *testing.T) {
	s := sample()
	s.Pods = append(s.Pods, api.Pod{Name: "z", Node: "n", Claims: []string{"cx"}, Labels: []api.Label{{Key: "app", Value: "x"}}})
	x := opened(t, s)
	taken(t, "with none", x, del(x, api.KNode, "m"), "- node m")
	taken(t, "with several", x, del(x, api.KNode, "n"), "- pod a @n", "- pod b @n", "- pod z @n", "- node n")
	same(t, "as they were", []api.Object{x.Log(3)[0].Object, x.Log(3)[1].Object}, []api.Object{podOf(s.Pods[5]), nodeOf(s.Nodes[1])})
	same(t, "who is left", x.Versions(api.KPod), []api.Item{{Key: "c"}, {Key: "p"}, {Key: "q"}})
	taken(t, "a hope stays", x, del(x, api.KNode, "o"), "- pod c @o", "- node o")
	p, _ := podIn(x.State(), "q")
	same(t, "hope", p.Hope, "o")
	same(t, "claims and volumes are as they were", []any{x.State().Claims, x.State().Volumes}, []any{s.Claims, s.Volumes})
	refused(t, "once more", x, del(x, api.KNode, "n"), api.ErrNone)
}

// 12.1: pods that were bound by the store go in the order of names, not of binds.
func TestDeleteNodeOrder(t *testing.T) {
	x := opened(t, api.State{Nodes: []api.Node{node("n", "1")}})
	for _, name := range []string{"c", "a", "d", "b"} {
		x.Put(podOf(api.Pod{Name: name}))
		comesTo(t, name, bind(x, asSeen(x, name, "n")), x.Version()+1)
	}
	taken(t, "Delete", x, del(x, api.KNode, "n"), "- pod a @n", "- pod b @n", "- pod c @n", "- pod d @n", "- node n")
	same(t, "nothing is left", x.State(), api.State{})
}
