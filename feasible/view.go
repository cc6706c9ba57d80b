package feasible

import (
	"stevedore/api"
	"stevedore/fit"
	"stevedore/info"
	"stevedore/near"
	"stevedore/spread"
	"stevedore/volume"
)

// question is one thing that is asked about a pod on a node: why not, or 0; with the picks, if it is about volumes.
type question func(i api.Info) (int, []api.Pick)

// view is a state as a pod finds it that would come.
type view struct {
	infos []api.Info // of the nodes, in order
	asked []question // in turn
}

func viewOf(s api.State, p api.Pod) view {
	s = around(s, p.Name)
	return view{infos: info.All(s), asked: questions(s, p)}
}

// questions is what is asked, in the chapter's order, of a state in which the pod itself does not count any more.
func questions(s api.State, p api.Pod) []question {
	placed := placedIn(s)
	return []question{
		func(i api.Info) (int, []api.Pick) { return fit.Check(p, i), nil },
		func(i api.Info) (int, []api.Pick) { return near.Check(p, i.Node.Labels, placed), nil },
		func(i api.Info) (int, []api.Pick) { return spread.Check(p, i.Node.Labels, s.Nodes, placed), nil },
		func(i api.Info) (int, []api.Pick) {
			picks, why := volume.Plan(p, i, s)
			return why, picks
		},
	}
}

// ask is the first thing that is against the pod's coming to i's node, and no picks; or 0, and the picks.
func (v view) ask(i api.Info) (int, []api.Pick) {
	var all []api.Pick
	for _, q := range v.asked {
		why, picks := q(i)
		if why != 0 {
			return why, nil
		}
		all = append(all, picks...)
	}
	return 0, all
}

// around is s as it counts for a pod of that name: no pod of its name, and of each other name the first pod, the first node.
func around(s api.State, name string) api.State {
	s.Pods = firsts(unnamed(s.Pods, []string{name}), podName)
	s.Nodes = firsts(s.Nodes, nodeName)
	return s
}

// placedIn is the bound pods of a state in which no name stands twice, each with the labels of its node; of one that is not there: none.
func placedIn(s api.State) []api.Placed {
	at := make(map[string]int, len(s.Nodes))
	for k, n := range s.Nodes {
		at[n.Name] = k
	}
	var out []api.Placed
	for _, p := range s.Pods {
		if !isBound(p) {
			continue
		}
		x := api.Placed{Pod: p}
		if k, there := at[p.Node]; there {
			x.Labels = s.Nodes[k].Labels
		}
		out = append(out, x)
	}
	return out
}
