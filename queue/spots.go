package queue

import (
	"cmp"
	"slices"

	"stevedore/api"
)

// spot is an entry, and the place where it is.
type spot struct {
	place int
	entry api.Waiting
}

// hope is what a name hopes for.
type hope struct{ node string }

// against is what is against an entry of that name coming into the queue: ErrNil, ErrArg, ErrSame.
func (q *Queue) against(name string) api.Errno {
	switch {
	case !q.made():
		return api.ErrNil
	case name == "":
		return api.ErrArg
	case q.spots[name].place != nowhere:
		return api.ErrSame
	}
	return api.OK
}

// againstNow is what is against a call at that moment: ErrNil, ErrArg.
func (q *Queue) againstNow(now int) api.Errno {
	switch {
	case !q.made():
		return api.ErrNil
	case !mayBe(now):
		return api.ErrArg
	}
	return api.OK
}

// mayBe asks whether a now is one that calls take.
func mayBe(now int) bool { return now >= 0 && now <= lastNow }

// put brings an entry in that is nowhere; only those that are ready lie in the heap, too.
func (q *Queue) put(w api.Waiting, place int) {
	q.spots[w.Name] = spot{place: place, entry: w}
	if place == Ready {
		q.ready.Push(api.Item{Key: w.Name, Rank: w.Priority, Seq: w.Seq})
	}
}

// take takes the entry of that name out of whichever place it is in. What the name hopes for stays: it may come back.
func (q *Queue) take(name string) api.Waiting {
	w := q.spots[name].entry
	delete(q.spots, name)
	q.ready.Drop(name)
	return w
}

// shift brings an entry that is in the queue to another place.
func (q *Queue) shift(w api.Waiting, place int) {
	q.take(w.Name)
	q.put(w, place)
}

// gather is the entries of a place that fit, by Seq, then by name: the order of the map is not to be seen.
func (q *Queue) gather(place int, fits func(api.Waiting) bool) []api.Waiting {
	var l []api.Waiting
	for _, s := range q.spots {
		if s.place == place && fits(s.entry) {
			l = append(l, s.entry)
		}
	}
	slices.SortFunc(l, func(a, b api.Waiting) int {
		return cmp.Or(cmp.Compare(a.Seq, b.Seq), cmp.Compare(a.Name, b.Name))
	})
	return l
}
