package budget

import "stevedore/api"

func isBound(p api.Pod) bool { return p.Node != "" }

// places is where the first pod of each name stands.
func places(pods []api.Pod) map[string]int {
	at := make(map[string]int, len(pods))
	for k, p := range pods {
		if _, was := at[p.Name]; !was {
			at[p.Name] = k
		}
	}
	return at
}

// bound is those of the state's pods that are bound and the first of their names, in order.
func bound(s api.State) []api.Pod {
	at := places(s.Pods)
	var out []api.Pod
	for k, p := range s.Pods {
		if at[p.Name] == k && isBound(p) {
			out = append(out, p)
		}
	}
	return out
}

// named is the first pod of each of those names, each once, in the names' order; names that no pod has are left out.
func named(s api.State, names []string) []api.Pod {
	at := places(s.Pods)
	var out []api.Pod
	for _, name := range names {
		k, there := at[name]
		if !there {
			continue
		}
		out = append(out, s.Pods[k])
		// So that each name is taken once alone.
		delete(at, name)
	}
	return out
}
