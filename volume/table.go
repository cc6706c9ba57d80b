package volume

import (
	"maps"
	"slices"

	"stevedore/api"
)

// table is a list whose members are found by name: of a name that stands twice the first one counts, as if there were no other.
type table[T any] struct {
	list []T
	at   map[string]int // where the first one of each name stands
}

func tableOf[T any](l []T, name func(T) string) table[T] {
	at := make(map[string]int, len(l))
	for k, x := range l {
		if _, was := at[name(x)]; !was {
			at[name(x)] = k
		}
	}
	return table[T]{list: l, at: at}
}

// find is the one of that name, as it stands in the list; nil, if there is none.
func (t table[T]) find(name string) *T {
	k, there := t.at[name]
	if !there {
		return nil
	}
	return &t.list[k]
}

// all is those that count, in order.
func (t table[T]) all() []T {
	out := make([]T, 0, len(t.at))
	for _, k := range slices.Sorted(maps.Values(t.at)) {
		out = append(out, t.list[k])
	}
	return out
}

func claimName(c api.Claim) string { return c.Name }

func volumeName(v api.Volume) string { return v.Name }

func className(c api.Class) string { return c.Name }

// eachOnce is the names of all lists, in order, each where it stands first.
func eachOnce(lists ...[]string) []string {
	return tableOf(slices.Concat(lists...), func(name string) string { return name }).all()
}
