package preempt

import (
	"slices"

	"stevedore/api"
	"stevedore/budget"
	"stevedore/fit"
	"stevedore/info"
)

// putOut is the lower ones that can't be put back, in budget.Order; nobody, if p does not fit even with all of them away.
func putOut(s api.State, p api.Pod, node string) []string {
	at := slices.IndexFunc(s.Nodes, func(n api.Node) bool { return n.Name == node })
	if at < 0 {
		return nil
	}
	lower, others := sides(s, p, node)
	left := info.Of(s.Nodes[at], others...)
	if fit.Check(p, left) != 0 {
		return nil
	}
	order := budget.Order(s, namesOf(lower))
	left = putBack(p, left, inTurn(lower, order, budget.Broken(s, order)))
	return slices.DeleteFunc(order, func(name string) bool {
		_, stands := slices.BinarySearch(left.Names, name)
		return stands
	})
}

// putBack is i with those of the pods, in turn, beside which p fits still.
func putBack(p api.Pod, i api.Info, pods []api.Pod) api.Info {
back:
	for _, q := range pods {
		with, _ := info.Add(i, q)
		switch fit.Check(p, with) {
		case 0:
			i = with
		case api.WhyPods:
			// Whoever comes back next makes the node as full, so that nobody behind can.
			break back
		}
	}
	return i
}

// inTurn is the lower ones as they are put back: the broken ones ahead of the others, both in order.
func inTurn(lower []api.Pod, order, broken []string) []api.Pod {
	called := make(map[string]api.Pod, len(lower))
	for _, q := range lower {
		called[q.Name] = q
	}
	var first, then []api.Pod
	for _, name := range order {
		// The broken ones are told in order, so that the next one is always at their front.
		if len(broken) > 0 && broken[0] == name {
			first, broken = append(first, called[name]), broken[1:]
			continue
		}
		then = append(then, called[name])
	}
	return append(first, then...)
}
