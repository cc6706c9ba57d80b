package cache

import (
	"maps"

	"stevedore/api"
)

// sights is how many changes each node's name saw, whether such a node is known or not: it may come, or come back. Listing a kind sets that kind's counts alone, so each has its own.
type sights struct {
	ofNodes map[string]int // of the node itself
	ofPods  map[string]int // of pods that stood there, or stood there then
}

// of is the sight of a node's name.
func (s sights) of(node string) int { return s.ofNodes[node] + s.ofPods[node] }

// pod counts a pod's change, for the node where it stood, and for the one where it stands: once, if that is the same.
func (s sights) pod(from, to string) {
	if from != "" {
		s.ofPods[from]++
	}
	if to != "" && to != from {
		s.ofPods[to]++
	}
}

func (s sights) clone() sights {
	return sights{ofNodes: maps.Clone(s.ofNodes), ofPods: maps.Clone(s.ofPods)}
}

// firsts is what the first item of each name tells.
func firsts(l []api.Item) map[string]int {
	told := make(map[string]int, len(l))
	for _, x := range l {
		if _, was := told[x.Key]; !was {
			told[x.Key] = x.Seq
		}
	}
	return told
}
