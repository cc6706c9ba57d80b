package info

import (
	"cmp"
	"slices"

	"stevedore/api"
	"stevedore/quant"
)

func podName(p api.Pod) string { return p.Name }

func nodeName(n api.Node) string { return n.Name }

// firsts is the first one of each name, in order.
func firsts[T any](l []T, name func(T) string) []T {
	var out []T
	seen := make(map[string]struct{}, len(l))
	for _, x := range l {
		if _, was := seen[name(x)]; was {
			continue
		}
		seen[name(x)] = struct{}{}
		out = append(out, x)
	}
	return out
}

// of is the info of n with pods of which no name stands twice.
func of(n api.Node, pods []api.Pod) api.Info {
	var names, claims []string
	var ports []int
	var used api.Res
	for _, p := range pods {
		names = append(names, p.Name)
		ports = append(ports, p.Ports...)
		claims = append(claims, p.Claims...)
		used = quant.Plus(used, p.Want)
	}
	return api.Info{Node: n, Names: joined(names), Used: used, Ports: joined(ports), Disks: joined(claims)}
}

// others is those of rest whose names are among names, but for one name.
func others(names []string, but string, rest []api.Pod) []api.Pod {
	stay := make(map[string]struct{}, len(names))
	for _, name := range names {
		stay[name] = struct{}{}
	}
	delete(stay, but)
	var out []api.Pod
	for _, p := range rest {
		if _, ok := stay[p.Name]; ok {
			out = append(out, p)
		}
	}
	return out
}

// byNode is the bound pods, by where they are bound. One that waits is bound nowhere, even if a node has no name.
func byNode(pods []api.Pod) map[string][]api.Pod {
	out := map[string][]api.Pod{}
	for _, p := range pods {
		if p.Node != "" {
			out[p.Node] = append(out[p.Node], p)
		}
	}
	return out
}

// joined is the members of l and more, rising, each once, in memory of their own.
func joined[T cmp.Ordered](l []T, more ...T) []T {
	// A piece of l without room: what is appended comes into room of its own, and not over what others have.
	out := append(append(l[:0:0], l...), more...)
	slices.Sort(out)
	return slices.Compact(out)
}
