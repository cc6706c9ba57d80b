package feasible

import (
	"slices"

	"stevedore/api"
)

func podName(p api.Pod) string { return p.Name }

func nodeName(n api.Node) string { return n.Name }

func isBound(p api.Pod) bool { return p.Node != "" }

// placeOf is where the first one of that name stands; -1, if there is none.
func placeOf[T any](l []T, name func(T) string, wanted string) int {
	return slices.IndexFunc(l, func(x T) bool { return name(x) == wanted })
}

// firsts is the first one of each name, in order.
func firsts[T any](l []T, name func(T) string) []T {
	var out []T
	seen := make(map[string]struct{}, len(l))
	for _, x := range l {
		if _, was := seen[name(x)]; was {
			continue
		}
		seen[name(x)] = struct{}{}
		out = append(out, x)
	}
	return out
}

// unnamed is the pods that have none of those names, in a list of its own.
func unnamed(pods []api.Pod, names []string) []api.Pod {
	gone := make(map[string]struct{}, len(names))
	for _, name := range names {
		gone[name] = struct{}{}
	}
	var out []api.Pod
	for _, p := range pods {
		if _, is := gone[p.Name]; !is {
			out = append(out, p)
		}
	}
	return out
}
