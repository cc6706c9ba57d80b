package preempt_test

import (
	"math/big"
	"slices"

	"stevedore/api"
	"stevedore/budget"
	"stevedore/feasible"
	"stevedore/fit"
	"stevedore/info"
)

// What follows is the chapter's sentences, with what the layers below tell.

// podByWords is the first pod of that name.
func podByWords(s api.State, name string) (api.Pod, bool) {
	for _, q := range s.Pods {
		if q.Name == name {
			return q, true
		}
	}
	return api.Pod{}, false
}

// nodeByWords is the first node of that name.
func nodeByWords(s api.State, name string) (api.Node, bool) {
	for _, n := range s.Nodes {
		if n.Name == name {
			return n, true
		}
	}
	return api.Node{}, false
}

// stands tells whether the pod of that name is bound to the node.
func stands(s api.State, name, node string) bool {
	q, there := podByWords(s, name)
	return there && q.Node == node && q.Node != ""
}

func lowerByWords(s api.State, p api.Pod, node string) []string {
	var out []string
	for _, x := range s.Pods {
		if q, _ := podByWords(s, x.Name); stands(s, q.Name, node) && q.Name != p.Name && q.Priority < p.Priority {
			out = append(out, q.Name)
		}
	}
	return budget.Order(s, out)
}

// fitsByWords tells whether p fits on the node (7.1), if the pods of those names were away.
func fitsByWords(s api.State, p api.Pod, node string, away []string) bool {
	n, there := nodeByWords(s, node)
	if !there {
		return false
	}
	var pods []api.Pod
	for _, x := range s.Pods {
		q, _ := podByWords(s, x.Name)
		if stands(s, q.Name, node) && !slices.Contains(away, q.Name) {
			pods = append(pods, q)
		}
	}
	return fit.Check(p, info.Of(n, pods...)) == 0
}

// less is l without those.
func less(l []string, gone ...string) []string {
	return slices.DeleteFunc(slices.Clone(l), func(x string) bool { return slices.Contains(gone, x) })
}

func victimsByWords(s api.State, p api.Pod, node string) ([]string, bool) {
	lower := lowerByWords(s, p, node)
	if !fitsByWords(s, p, node, lower) {
		return nil, false
	}
	broken := budget.Broken(s, lower)
	away := lower
	for _, turn := range [][]string{broken, less(lower, broken...)} {
		for _, name := range turn {
			if back := less(away, name); fitsByWords(s, p, node, back) {
				away = back
			}
		}
	}
	victims := budget.Order(s, away)
	if why, _ := feasible.Check(feasible.Without(s, victims...), p, node); len(victims) == 0 || why != 0 {
		return nil, false
	}
	return victims, true
}

func candidatesByWords(s api.State, p api.Pod) []api.Chosen {
	var out []api.Chosen
	var seen []string
	for _, n := range s.Nodes {
		if slices.Contains(seen, n.Name) {
			continue
		}
		seen = append(seen, n.Name)
		if victims, is := victimsByWords(s, p, n.Name); is {
			out = append(out, chosen(n.Name, len(budget.Broken(s, victims)), victims...))
		}
	}
	return out
}

// weight is what a candidate is compared by, the first number that differs decides: numbers without bounds.
func weight(s api.State, c api.Chosen) []*big.Int {
	var greatest *big.Int
	sum := new(big.Int)
	bound := big.NewInt(api.MaxPriority)
	for _, name := range c.Victims {
		q, _ := podByWords(s, name)
		x := big.NewInt(int64(q.Priority))
		if greatest == nil || x.Cmp(greatest) > 0 {
			greatest = x
		}
		switch {
		case x.CmpAbs(bound) <= 0:
			sum.Add(sum, x)
		case x.Sign() > 0:
			sum.Add(sum, bound)
		default:
			sum.Sub(sum, bound)
		}
	}
	return []*big.Int{big.NewInt(int64(c.Broken)), greatest, sum, big.NewInt(int64(len(c.Victims)))}
}

// betterByWords tells whether a, which stands behind b, is better.
func betterByWords(s api.State, a, b api.Chosen) bool {
	return slices.CompareFunc(weight(s, a), weight(s, b), (*big.Int).Cmp) < 0
}

func chooseByWords(s api.State, p api.Pod) (api.Chosen, bool) {
	all := candidatesByWords(s, p)
	if len(all) == 0 || len(feasible.Any(s, p)) > 0 {
		return api.Chosen{}, false
	}
	best := all[0]
	for _, c := range all[1:] {
		if betterByWords(s, c, best) {
			best = c
		}
	}
	return best, true
}
