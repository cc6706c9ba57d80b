package object

import (
	"slices"

	"stevedore/api"
)

// keeper does for one kind what the calls ask for, whatever the type of its objects.
type keeper interface {
	name(o api.Object) string
	right(o api.Object) bool
	blank(o api.Object) bool
	rightIn(s api.State) bool
	get(s api.State, name string) (api.Object, bool)
	put(s api.State, o api.Object) (api.State, bool, api.Errno)
	remove(s api.State, name string) (api.State, bool)
	count(s api.State) int
	all(s api.State) []api.Object
}

// kinds are all kinds, in the order of their numbers, from api.KPod on.
func kinds() []keeper {
	return []keeper{
		kept[api.Pod]{pods{}},
		kept[api.Node]{nodes{}},
		kept[api.Volume]{volumes{}},
		kept[api.Claim]{claims{}},
		kept[api.Class]{classes{}},
		kept[api.Budget]{budgets{}},
	}
}

// kindOf is the kind of that number, and whether there is one.
func kindOf(number int) (keeper, bool) {
	if number < api.KPod || number > api.KBudget {
		return nil, false
	}
	return kinds()[number-api.KPod], true
}

// kept is a keeper of objects of type T, by what their kind tells of them.
type kept[T any] struct{ of teller[T] }

func (k kept[T]) name(o api.Object) string { return k.of.name(k.of.member(o)) }

func (k kept[T]) right(o api.Object) bool { return k.of.right(k.of.member(o)) }

func (k kept[T]) blank(o api.Object) bool { return k.of.blank(k.of.member(o)) }

func (k kept[T]) rightIn(s api.State) bool {
	l := k.of.list(s)
	return allRight(l, k.of.right) && risingBy(l, k.of.name)
}

func (k kept[T]) get(s api.State, name string) (api.Object, bool) {
	l := k.of.list(s)
	i := find(k.of, l, name)
	if i < 0 {
		return api.Object{}, false
	}
	return k.of.object(l[i]), true
}

func (k kept[T]) put(s api.State, o api.Object) (api.State, bool, api.Errno) {
	s = own(s)
	l, x := k.of.list(s), k.of.member(o)
	if i := find(k.of, l, k.of.name(x)); i >= 0 {
		l[i] = x
		return s, true, api.OK
	}
	if len(l) >= api.MaxObjects {
		return api.State{}, false, api.ErrLong
	}
	return k.of.with(s, slices.Insert(l, place(k.of, l, k.of.name(x)), x)), false, api.OK
}

func (k kept[T]) remove(s api.State, name string) (api.State, bool) {
	s = own(s)
	l := k.of.list(s)
	i := find(k.of, l, name)
	if i < 0 {
		return s, false
	}
	return k.of.with(s, slices.Delete(l, i, i+1)), true
}

func (k kept[T]) count(s api.State) int { return len(k.of.list(s)) }

func (k kept[T]) all(s api.State) []api.Object {
	var l []api.Object
	for _, x := range k.of.list(s) {
		l = append(l, k.of.object(x))
	}
	return l
}

// find is the place of the first one of that name; -1, if there is none.
func find[T any](k teller[T], l []T, name string) int {
	return slices.IndexFunc(l, func(x T) bool { return k.name(x) == name })
}

// place is where one of a new name comes: ahead of the first one of a greater name, even if names do not rise.
func place[T any](k teller[T], l []T, name string) int {
	i := slices.IndexFunc(l, func(x T) bool { return k.name(x) > name })
	if i < 0 {
		return len(l)
	}
	return i
}

// own is s with lists of its own, so that nobody's state changes with another one.
func own(s api.State) api.State {
	return api.State{
		Pods:    slices.Clone(s.Pods),
		Nodes:   slices.Clone(s.Nodes),
		Volumes: slices.Clone(s.Volumes),
		Claims:  slices.Clone(s.Claims),
		Classes: slices.Clone(s.Classes),
		Budgets: slices.Clone(s.Budgets),
	}
}
