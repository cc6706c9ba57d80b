package near

import (
	"maps"
	"slices"

	"stevedore/api"
	"stevedore/label"
)

// domains is how many there are in each domain, a key with a value. One in which there is nobody has no entry, so that none at all is told by the length.
type domains map[api.Label]int

// domain is the one of a key that labels have, and whether they have one.
func domain(labels []api.Label, key string) (api.Label, bool) {
	value, there := label.Get(labels, key)
	return api.Label{Key: key, Value: value}, there
}

// count counts one more, or one fewer, where the labels are.
func (d domains) count(labels []api.Label, key string, by int) {
	at, there := domain(labels, key)
	if !there {
		return
	}
	d[at] += by
	if d[at] == 0 {
		delete(d, at)
	}
}

// here asks whether there is somebody in the labels' domain of that key.
func (d domains) here(labels []api.Label, key string) bool {
	at, there := domain(labels, key)
	return there && d[at] > 0
}

// wish is a term of the pod, with where those are that meet it.
type wish struct {
	api.Term
	met domains
}

func wishesOf(terms []api.Term) []wish {
	var out []wish
	for _, t := range terms {
		out = append(out, wish{Term: t, met: domains{}})
	}
	return out
}

func (w wish) count(x api.Placed, by int) {
	if label.Match(x.Pod.Labels, w.Reqs) {
		w.met.count(x.Labels, w.Key, by)
	}
}

func (w wish) clone() wish {
	reqs := slices.Clone(w.Reqs)
	for i := range reqs {
		reqs[i].Values = slices.Clone(reqs[i].Values)
	}
	return wish{Term: api.Term{Reqs: reqs, Key: w.Key}, met: maps.Clone(w.met)}
}

// tally is all of a pod and of what is placed that tells whether the pod may come somewhere.
type tally struct {
	name        string
	labels      []api.Label
	near, apart []wish
	others      domains // where those are that keep apart from the pod
}

// tallyOf is a tally of nothing placed. It shares the pod's lists: who keeps it takes a clone.
func tallyOf(p api.Pod) tally {
	return tally{name: p.Name, labels: p.Labels, near: wishesOf(p.Near), apart: wishesOf(p.Apart), others: domains{}}
}

func (c tally) clone() tally {
	c.labels, c.others = slices.Clone(c.labels), maps.Clone(c.others)
	c.near, c.apart = cloneAll(c.near), cloneAll(c.apart)
	return c
}

func cloneAll(l []wish) []wish {
	var out []wish
	for _, w := range l {
		out = append(out, w.clone())
	}
	return out
}

// count counts x once more, or once less, wherever it is counted. One of the pod's own name is counted nowhere: the pod is not in its own way.
func (c tally) count(x api.Placed, by int) {
	if x.Pod.Name == c.name {
		return
	}
	for _, w := range c.near {
		w.count(x, by)
	}
	for _, w := range c.apart {
		w.count(x, by)
	}
	for _, t := range x.Pod.Apart {
		if label.Match(c.labels, t.Reqs) {
			c.others.count(x.Labels, t.Key, by)
		}
	}
}

// why is the first reason in the chapter's order; 0, if there is none.
func (c tally) why(labels []api.Label) int {
	switch {
	case c.lacks(labels):
		return api.WhyNear
	case c.avoids(labels):
		return api.WhyApart
	case c.avoided(labels):
		return api.WhyOthers
	}
	return 0
}

// lacks asks whether one that the pod wants near is not there.
func (c tally) lacks(labels []api.Label) bool {
	for _, w := range c.near {
		at, there := domain(labels, w.Key)
		if !there || w.met[at] == 0 && !c.first(w) {
			return true
		}
	}
	return false
}

// first asks whether the pod may be the first one of those that want each other near: else none of them could ever come.
func (c tally) first(w wish) bool { return len(w.met) == 0 && label.Match(c.labels, w.Reqs) }

// avoids asks whether one that the pod keeps apart from is there.
func (c tally) avoids(labels []api.Label) bool {
	for _, w := range c.apart {
		if w.met.here(labels, w.Key) {
			return true
		}
	}
	return false
}

// avoided asks whether one that keeps apart from the pod is there.
func (c tally) avoided(labels []api.Label) bool {
	for _, l := range labels {
		// Asked for by its key once more: of a key that stands twice the first label counts.
		if c.others[l] > 0 && c.others.here(labels, l.Key) {
			return true
		}
	}
	return false
}
