package object

import (
	"stevedore/api"
	"stevedore/label"
	"stevedore/taint"
)

// teller is a kind that tells of its objects, of type T, all in which kinds differ: their names, whether they are right, whether there is nothing in them, and where they stand in an object and in a state.
type teller[T any] interface {
	name(x T) string
	right(x T) bool
	blank(x T) bool
	member(o api.Object) T
	object(x T) api.Object
	list(s api.State) []T
	with(s api.State, l []T) api.State
}

type pods struct{}

func (pods) name(p api.Pod) string { return p.Name }

func (pods) right(p api.Pod) bool {
	return label.Word(p.Name) && within(p.Priority, -api.MaxPriority, api.MaxPriority) &&
		label.Check(p.Labels) == api.OK && areReqs(p.Asks) && taint.CheckBears(p.Bears) == api.OK &&
		areAmounts(p.Want) && rightItems(p.Prefers, isPrefer) &&
		rightItems(p.Ports, isPort) && rising(p.Ports) &&
		rightItems(p.Near, isTerm) && rightItems(p.Apart, isTerm) && rightItems(p.Spreads, isSpread) &&
		rightItems(p.Claims, label.Word) && rising(p.Claims) &&
		isNameOrNone(p.Node) && isNameOrNone(p.Hope)
}

// blank asks for no items rather than for nil: a list without members may be either.
func (pods) blank(p api.Pod) bool {
	items := len(p.Labels) + len(p.Bears) + len(p.Asks) + len(p.Prefers) + len(p.Ports) +
		len(p.Near) + len(p.Apart) + len(p.Spreads) + len(p.Claims)
	return items == 0 && p.Name == "" && p.Priority == 0 && p.Want == (api.Res{}) && p.Node == "" && p.Hope == ""
}

func (pods) member(o api.Object) api.Pod { return o.Pod }

func (pods) object(p api.Pod) api.Object { return api.Object{Kind: api.KPod, Pod: p} }

func (pods) list(s api.State) []api.Pod { return s.Pods }

func (pods) with(s api.State, l []api.Pod) api.State {
	s.Pods = l
	return s
}

type nodes struct{}

func (nodes) name(n api.Node) string { return n.Name }

func (nodes) right(n api.Node) bool {
	return label.Word(n.Name) && label.Check(n.Labels) == api.OK && taint.Check(n.Taints) == api.OK &&
		areAmounts(n.Give) && within(n.Pods, 0, most) && within(n.Disks, 0, most)
}

func (nodes) blank(n api.Node) bool {
	items := len(n.Labels) + len(n.Taints)
	return items == 0 && n.Name == "" && !n.Off && n.Give == (api.Res{}) && n.Pods == 0 && n.Disks == 0
}

func (nodes) member(o api.Object) api.Node { return o.Node }

func (nodes) object(n api.Node) api.Object { return api.Object{Kind: api.KNode, Node: n} }

func (nodes) list(s api.State) []api.Node { return s.Nodes }

func (nodes) with(s api.State, l []api.Node) api.State {
	s.Nodes = l
	return s
}

type volumes struct{}

func (volumes) name(v api.Volume) string { return v.Name }

func (volumes) right(v api.Volume) bool {
	return label.Word(v.Name) && isAmount(v.Size) && label.Word(v.Class) && areReqs(v.Reqs) && isNameOrNone(v.Claim)
}

func (volumes) blank(v api.Volume) bool {
	return v.Name == "" && v.Size == 0 && v.Class == "" && len(v.Reqs) == 0 && v.Claim == ""
}

func (volumes) member(o api.Object) api.Volume { return o.Volume }

func (volumes) object(v api.Volume) api.Object { return api.Object{Kind: api.KVolume, Volume: v} }

func (volumes) list(s api.State) []api.Volume { return s.Volumes }

func (volumes) with(s api.State, l []api.Volume) api.State {
	s.Volumes = l
	return s
}

type claims struct{}

func (claims) name(c api.Claim) string { return c.Name }

func (claims) right(c api.Claim) bool {
	return label.Word(c.Name) && isAmount(c.Size) && label.Word(c.Class) && isNameOrNone(c.Volume)
}

func (claims) blank(c api.Claim) bool { return c == api.Claim{} }

func (claims) member(o api.Object) api.Claim { return o.Claim }

func (claims) object(c api.Claim) api.Object { return api.Object{Kind: api.KClaim, Claim: c} }

func (claims) list(s api.State) []api.Claim { return s.Claims }

func (claims) with(s api.State, l []api.Claim) api.State {
	s.Claims = l
	return s
}

type classes struct{}

func (classes) name(c api.Class) string { return c.Name }

func (classes) right(c api.Class) bool { return label.Word(c.Name) }

func (classes) blank(c api.Class) bool { return c == api.Class{} }

func (classes) member(o api.Object) api.Class { return o.Class }

func (classes) object(c api.Class) api.Object { return api.Object{Kind: api.KClass, Class: c} }

func (classes) list(s api.State) []api.Class { return s.Classes }

func (classes) with(s api.State, l []api.Class) api.State {
	s.Classes = l
	return s
}

type budgets struct{}

func (budgets) name(b api.Budget) string { return b.Name }

func (budgets) right(b api.Budget) bool {
	return label.Word(b.Name) && areReqs(b.Reqs) && within(b.Least, 0, most)
}

func (budgets) blank(b api.Budget) bool { return b.Name == "" && len(b.Reqs) == 0 && b.Least == 0 }

func (budgets) member(o api.Object) api.Budget { return o.Budget }

func (budgets) object(b api.Budget) api.Object { return api.Object{Kind: api.KBudget, Budget: b} }

func (budgets) list(s api.State) []api.Budget { return s.Budgets }

func (budgets) with(s api.State, l []api.Budget) api.State {
	s.Budgets = l
	return s
}
