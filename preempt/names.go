package preempt

import "stevedore/api"

// sides is the pods bound to the node: those below p, and all others; p's own name is never below it.
func sides(s api.State, p api.Pod, node string) (lower, others []api.Pod) {
	for _, q := range boundTo(s, node) {
		if q.Name != p.Name && q.Priority < p.Priority {
			lower = append(lower, q)
		} else {
			others = append(others, q)
		}
	}
	return lower, others
}

// boundTo is the pods that are bound to that node, the first of each name in the state alone.
func boundTo(s api.State, node string) []api.Pod {
	if node == "" {
		return nil // these wait
	}
	var out []api.Pod
	seen := make(map[string]struct{}, len(s.Pods))
	for _, q := range s.Pods {
		if _, was := seen[q.Name]; was {
			continue
		}
		seen[q.Name] = struct{}{}
		if q.Node == node {
			out = append(out, q)
		}
	}
	return out
}

func namesOf(pods []api.Pod) []string {
	var out []string
	for _, q := range pods {
		out = append(out, q.Name)
	}
	return out
}

// nodeNames is the names of the state's nodes, in order, each once.
func nodeNames(s api.State) []string {
	var out []string
	seen := make(map[string]struct{}, len(s.Nodes))
	for _, n := range s.Nodes {
		if _, was := seen[n.Name]; was {
			continue
		}
		seen[n.Name] = struct{}{}
		out = append(out, n.Name)
	}
	return out
}
