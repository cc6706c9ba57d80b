package budget

import (
	"stevedore/api"
	"stevedore/label"
)

// tally is how many more pods each budget of a state lets be put out.
type tally struct {
	budgets []api.Budget   // the first one of each name
	left    map[string]int // by the budget's name
}

func tallyOf(s api.State) tally {
	t := tally{left: make(map[string]int, len(s.Budgets))}
	pods := bound(s)
	for _, b := range s.Budgets {
		if _, was := t.left[b.Name]; was {
			continue
		}
		t.left[b.Name] = allowed(pods, b)
		t.budgets = append(t.budgets, b)
	}
	return t
}

// put puts a bound pod out, and tells whether each budget that is about it allowed that.
func (t tally) put(p api.Pod) bool {
	all := true
	for _, b := range t.budgets {
		if !isAbout(b, p) {
			continue
		}
		if t.left[b.Name] == 0 {
			all = false
			continue
		}
		t.left[b.Name]--
	}
	return all
}

// allowed is how many of the bound pods that a budget is about it lets be put out.
func allowed(pods []api.Pod, b api.Budget) int {
	n := 0
	for _, p := range pods {
		if isAbout(b, p) {
			n++
		}
	}
	return max(n-max(b.Least, 0), 0)
}

// isAbout asks of a pod that is bound.
func isAbout(b api.Budget, p api.Pod) bool { return label.Match(p.Labels, b.Reqs) }
