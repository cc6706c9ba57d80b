package spread

import (
	"maps"
	"slices"

	"stevedore/api"
	"stevedore/label"
)

// census is how many nodes and how many pods of a spread each domain of its key has.
type census struct {
	api.Spread
	nodes map[string]int // just the domains of the spread have an entry
	pods  map[string]int // in a domain that no node has pods count, too: the labels that are asked about may be of it
}

// censusOf leaves out those that are ignored.
func censusOf(s api.Spread, nodes []api.Node, placed []api.Placed, ignored func(api.Pod) bool) census {
	c := census{Spread: s, nodes: map[string]int{}, pods: map[string]int{}}
	for _, n := range nodes {
		c.count(c.nodes, n.Labels)
	}
	for _, x := range placed {
		if !ignored(x.Pod) && c.meets(x.Pod) {
			c.count(c.pods, x.Labels)
		}
	}
	return c
}

// count counts one more where the labels are.
func (c census) count(in map[string]int, labels []api.Label) {
	if value, there := label.Get(labels, c.Key); there {
		in[value]++
	}
}

func (c census) meets(p api.Pod) bool { return label.Match(p.Labels, c.Reqs) }

// domains is the domains of the spread, rising.
func (c census) domains() []string { return slices.Sorted(maps.Keys(c.nodes)) }

// counts is the counts of the domains, in their order.
func (c census) counts() []int {
	var out []int
	for _, value := range c.domains() {
		out = append(out, c.pods[value])
	}
	return out
}

// least is the least count; 0, if there are fewer domains than the spread's Least, or none.
func (c census) least() int {
	counts := c.counts()
	if len(counts) == 0 || len(counts) < c.Least {
		return 0
	}
	return slices.Min(counts)
}

// admits asks whether the spread lets p come to a node with those labels.
func (c census) admits(p api.Pod, labels []api.Label) bool {
	value, there := label.Get(labels, c.Key)
	if !there {
		return false
	}
	count := c.pods[value]
	if c.meets(p) {
		count++
	}
	return count-c.least() <= c.Skew
}
