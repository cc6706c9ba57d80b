package heap

import (
	"container/heap"
	"maps"
	"slices"

	"stevedore/api"
)

// entry is an item that is held against others.
type entry api.Item

// ahead compares and does not subtract: ranks and numbers may lie at the ends of what an int may be.
func (a entry) ahead(b entry) bool {
	if a.Rank != b.Rank {
		return a.Rank > b.Rank
	}
	if a.Seq != b.Seq {
		return a.Seq < b.Seq
	}
	return a.Key < b.Key
}

// list is items, and which of two comes ahead: what packages sort and container/heap ask for alike.
type list struct {
	items []api.Item
	ahead func(a, b entry) bool
}

func newList(items []api.Item) list { return list{items: items, ahead: entry.ahead} }

func (l list) Len() int { return len(l.items) }

func (l list) Less(i, j int) bool { return l.ahead(entry(l.items[i]), entry(l.items[j])) }

func (l list) Swap(i, j int) { l.items[i], l.items[j] = l.items[j], l.items[i] }

// keyed is a list, as container/heap keeps it, with the place of each key, so that an entry is found without a search.
type keyed struct {
	list
	at map[string]int
}

func newKeyed() *keyed { return &keyed{list: newList(nil), at: map[string]int{}} }

// Swap hides the list's own: the places go along with the entries.
func (k *keyed) Swap(i, j int) {
	k.list.Swap(i, j)
	k.at[k.items[i].Key] = i
	k.at[k.items[j].Key] = j
}

// Push is for container/heap alone: x comes last, wherever it belongs.
func (k *keyed) Push(x any) {
	item := x.(api.Item)
	k.at[item.Key] = len(k.items)
	k.items = append(k.items, item)
}

// Pop is for container/heap alone: the last one goes.
func (k *keyed) Pop() any {
	last := len(k.items) - 1
	item := k.items[last]
	// What is gone is not kept behind the list's end.
	k.items[last] = api.Item{}
	k.items = k.items[:last]
	delete(k.at, item.Key)
	return item
}

// put brings x in, and tells whether it took the place of the entry of its key.
func (k *keyed) put(x api.Item) bool {
	i, was := k.at[x.Key]
	if !was {
		heap.Push(k, x)
		return false
	}
	k.items[i] = x
	heap.Fix(k, i)
	return true
}

// take takes out the entry at place i.
func (k *keyed) take(i int) api.Item {
	x := k.items[i]
	heap.Remove(k, i)
	return x
}

// clone shares nothing with k.
func (k *keyed) clone() *keyed {
	return &keyed{list: newList(slices.Clone(k.items)), at: maps.Clone(k.at)}
}
