package cache

import (
	"maps"
	"slices"

	"stevedore/api"
	"stevedore/fresh"
)

// table is what is known of one kind: its objects, of type T, by their names. Lists within them are never written into, so that tables may share them.
type table[T any] struct {
	kind    teller[T]
	entries map[string]entry[T]
}

// entry is an object as it was told last, and its version.
type entry[T any] struct {
	object  T
	version int
}

// teller tells all in which kinds differ: what their objects are called, and where they stand in an object and in a state.
type teller[T any] struct {
	name   func(x T) string
	member func(o api.Object) T
	list   func(s *api.State) *[]T
}

func tableOf[T any](kind teller[T]) table[T] {
	return table[T]{kind: kind, entries: map[string]entry[T]{}}
}

// name is what an object of the table's kind is called.
func (t table[T]) name(o api.Object) string { return t.kind.name(t.kind.member(o)) }

// keep takes in an object that has a name, in the place of the one of that name, if there is one.
func (t table[T]) keep(o api.Object, version int) {
	t.entries[t.name(o)] = entry[T]{object: t.kind.member(fresh.Object(o)), version: version}
}

// drop leaves the object of that name out, if there is one.
func (t table[T]) drop(name string) { delete(t.entries, name) }

// fill takes in those objects of the kind that s has, and leaves out all others. Of a name that stands twice the last one counts.
func (t table[T]) fill(s api.State, versions map[string]int) {
	clear(t.entries)
	own := fresh.State(s)
	for _, x := range *t.kind.list(&own) {
		if name := t.kind.name(x); name != "" {
			t.entries[name] = entry[T]{object: x, version: versions[name]}
		}
	}
}

// lay puts all objects into s, rising by name.
func (t table[T]) lay(s *api.State) {
	l := t.kind.list(s)
	for _, name := range slices.Sorted(maps.Keys(t.entries)) {
		*l = append(*l, t.entries[name].object)
	}
}

// version is that of the object of that name; 0, if there is none.
func (t table[T]) version(name string) int { return t.entries[name].version }

// find is the object of that name, and whether there is one.
func (t table[T]) find(name string) (T, bool) {
	e, known := t.entries[name]
	return e.object, known
}

// edit does something to the object of that name, which must be there; its version stays.
func (t table[T]) edit(name string, how func(x *T)) {
	e := t.entries[name]
	how(&e.object)
	t.entries[name] = e
}

// clone is a table of its own with the same objects.
func (t table[T]) clone() table[T] {
	return table[T]{kind: t.kind, entries: maps.Clone(t.entries)}
}
