package store_test

import (
	"testing"

	"stevedore/api"
)

// crowd has a node n with pods of several priorities, another with one, and pods that wait.
func crowd() api.State {
	return api.State{
		Nodes: []api.Node{node("m", "1"), node("n", "1")},
		Pods: []api.Pod{
			{Name: "a", Priority: -5, Node: "n"},
			{Name: "b", Priority: 0, Node: "n", Claims: []string{"c"}},
			{Name: "c", Priority: 1, Node: "n"},
			{Name: "d", Priority: 4, Node: "n"},
			{Name: "e", Priority: 5, Node: "n"},
			{Name: "f", Priority: 6, Node: "n"},
			{Name: "g", Priority: 0, Node: "m"},
			{Name: "p", Priority: 5},
			{Name: "q", Priority: 0},
		},
		Claims:  []api.Claim{{Name: "c", Class: "k", Volume: "v"}},
		Volumes: []api.Volume{{Name: "v", Class: "k", Claim: "c"}},
	}
}

// 12.4: victims go in the list's order, a change each, as they were; their claims stay.
func TestEvict(t *testing.T) {
	x := opened(t, crowd())
	taken(t, "one", x, evict(x, outOf(x, "p", "n", "b")), "- pod b @n")
	same(t, "as it was", x.Log(0)[0].Object.Pod, crowd().Pods[1])
	same(t, "sight", x.Sight("n"), 1)
	taken(t, "several", x, evict(x, outOf(x, "p", "n", "d", "a", "c")), "- pod d @n", "- pod a @n", "- pod c @n")
	same(t, "sights", []int{x.Sight("n"), x.Sight("m")}, []int{4, 0})
	same(t, "who is left", x.Versions(api.KPod), []api.Item{{Key: "e"}, {Key: "f"}, {Key: "g"}, {Key: "p"}, {Key: "q"}})
	same(t, "claims and volumes", []any{x.State().Claims, x.State().Volumes}, []any{crowd().Claims, crowd().Volumes})
	refused(t, "once more", x, evict(x, outOf(x, "p", "n", "d")), api.ErrNone)
	taken(t, "for one that could stand there as it is", x, evict(x, outOf(x, "p", "m", "g")), "- pod g @m")
}

// 12.4: each reason alone, and which one counts where several apply.
func TestEvictRefused(t *testing.T) {
	x := opened(t, crowd())
	x.Put(nodeOf(node("n", "1"))) // so that its sight is 1
	long := make([]string, 5000)
	for k := range long {
		long[k] = "a"
	}
	for _, c := range []struct {
		what string
		e    api.Evict
		want api.Errno
	}{
		{"nothing", api.Evict{}, api.ErrNone},
		{"no such pod", api.Evict{For: "not-there", Node: "n", NodeSeen: 1, Victims: []string{"a"}}, api.ErrNone},
		{"no such node", api.Evict{For: "p", Node: "not-there", Victims: []string{"a"}}, api.ErrNone},
		{"no node's name", api.Evict{For: "p", Victims: []string{"q"}}, api.ErrNone},
		{"no such victim", api.Evict{For: "p", Node: "n", NodeSeen: 1, Victims: []string{"not-there"}}, api.ErrNone},
		{"an empty victim", api.Evict{For: "p", Node: "n", NodeSeen: 1, Victims: []string{""}}, api.ErrNone},
		{"the last victim is not there", api.Evict{For: "p", Node: "n", NodeSeen: 1, Victims: []string{"a", "b", "not-there"}}, api.ErrNone},
		{"a node for a victim", api.Evict{For: "p", Node: "n", NodeSeen: 1, Victims: []string{"n"}}, api.ErrNone},
		{"no such pod, no victims", api.Evict{For: "not-there", Node: "n", NodeSeen: 1}, api.ErrNone},
		{"no such node, no victims", api.Evict{For: "p", Node: "not-there"}, api.ErrNone},
		{"one twice, another not there", api.Evict{For: "p", Node: "n", NodeSeen: 9, Victims: []string{"a", "a", "not-there"}}, api.ErrNone},
		{"one that is not there, twice", api.Evict{For: "p", Node: "n", NodeSeen: 1, Victims: []string{"not-there", "not-there"}}, api.ErrNone},
		{"For is bound, a victim is not there", api.Evict{For: "f", Node: "n", NodeSeen: 9, Victims: []string{"not-there"}}, api.ErrNone},
		{"no victims", api.Evict{For: "p", Node: "n", NodeSeen: 1}, api.ErrArg},
		{"an empty list", api.Evict{For: "p", Node: "n", NodeSeen: 1, Victims: []string{}}, api.ErrArg},
		{"no victims, seen too early", api.Evict{For: "p", Node: "n", NodeSeen: 0}, api.ErrArg},
		{"no victims, For is bound", api.Evict{For: "f", Node: "n", NodeSeen: 1}, api.ErrArg},
		{"one twice", api.Evict{For: "p", Node: "n", NodeSeen: 1, Victims: []string{"a", "a"}}, api.ErrArg},
		{"one twice, with others between", api.Evict{For: "p", Node: "n", NodeSeen: 1, Victims: []string{"b", "a", "c", "b"}}, api.ErrArg},
		{"one very often", api.Evict{For: "p", Node: "n", NodeSeen: 1, Victims: long}, api.ErrArg},
		{"one twice, seen too early", api.Evict{For: "p", Node: "n", NodeSeen: 0, Victims: []string{"a", "a"}}, api.ErrArg},
		{"one twice that may not be put out", api.Evict{For: "p", Node: "n", NodeSeen: 1, Victims: []string{"f", "f"}}, api.ErrArg},
		{"seen too early", api.Evict{For: "p", Node: "n", NodeSeen: 0, Victims: []string{"a"}}, api.ErrConflict},
		{"seen too late", api.Evict{For: "p", Node: "n", NodeSeen: 2, Victims: []string{"a"}}, api.ErrConflict},
		{"seen below 0", api.Evict{For: "p", Node: "n", NodeSeen: -1, Victims: []string{"a"}}, api.ErrConflict},
		{"seen too early, For is bound", api.Evict{For: "f", Node: "n", NodeSeen: 0, Victims: []string{"a"}}, api.ErrConflict},
		{"seen too early, the same priority", api.Evict{For: "p", Node: "n", NodeSeen: 0, Victims: []string{"e"}}, api.ErrConflict},
		{"seen too early, bound elsewhere", api.Evict{For: "p", Node: "n", NodeSeen: 0, Victims: []string{"g"}}, api.ErrConflict},
		{"For is bound there", api.Evict{For: "f", Node: "n", NodeSeen: 1, Victims: []string{"a"}}, api.ErrVictim},
		{"For is bound elsewhere", api.Evict{For: "g", Node: "n", NodeSeen: 1, Victims: []string{"a"}}, api.ErrVictim},
		{"a victim bound elsewhere", api.Evict{For: "p", Node: "n", NodeSeen: 1, Victims: []string{"g"}}, api.ErrVictim},
		{"a victim that waits", api.Evict{For: "p", Node: "n", NodeSeen: 1, Victims: []string{"q"}}, api.ErrVictim},
		{"the last one bound elsewhere", api.Evict{For: "p", Node: "n", NodeSeen: 1, Victims: []string{"a", "b", "g"}}, api.ErrVictim},
		{"For itself", api.Evict{For: "p", Node: "n", NodeSeen: 1, Victims: []string{"p"}}, api.ErrVictim},
		{"the same priority", api.Evict{For: "p", Node: "n", NodeSeen: 1, Victims: []string{"e"}}, api.ErrVictim},
		{"a greater priority", api.Evict{For: "p", Node: "n", NodeSeen: 1, Victims: []string{"f"}}, api.ErrVictim},
		{"the first one of the same priority", api.Evict{For: "p", Node: "n", NodeSeen: 1, Victims: []string{"e", "a"}}, api.ErrVictim},
		{"the last one of the same priority", api.Evict{For: "p", Node: "n", NodeSeen: 1, Victims: []string{"a", "b", "e"}}, api.ErrVictim},
		{"the same priority, 0", api.Evict{For: "q", Node: "n", NodeSeen: 1, Victims: []string{"b"}}, api.ErrVictim},
	} {
		refused(t, c.what, x, evict(x, c.e), c.want)
	}
	taken(t, "one just below, one far below", x, evict(x, api.Evict{For: "p", Node: "n", NodeSeen: 1, Victims: []string{"d", "a"}}), "- pod d @n", "- pod a @n")
	taken(t, "for one of priority 0", x, put(x, podOf(api.Pod{Name: "a", Priority: -1})), "+ pod a")
	comesTo(t, "bound", bind(x, asSeen(x, "a", "m")), 5)
	taken(t, "below 0", x, evict(x, outOf(x, "q", "m", "a")), "- pod a @m")
}

// 12.4: from a node where For hopes to come, its hope stays as it is.
func TestEvictHope(t *testing.T) {
	x := opened(t, crowd())
	x.Hope("p", "n")
	taken(t, "evict", x, evict(x, outOf(x, "p", "n", "c")), "- pod c @n")
	p, _ := podIn(x.State(), "p")
	same(t, "hope", []string{p.Hope, p.Node}, []string{"n", ""})
}
