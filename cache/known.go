package cache

import (
	"stevedore/api"
	"stevedore/fresh"
)

// known is a table for each kind.
type known struct {
	pods    table[api.Pod]
	nodes   table[api.Node]
	volumes table[api.Volume]
	claims  table[api.Claim]
	classes table[api.Class]
	budgets table[api.Budget]
}

// shelf is a table, whatever the type of its objects.
type shelf interface {
	name(o api.Object) string
	keep(o api.Object, version int)
	drop(name string)
	fill(s api.State, versions map[string]int)
	lay(s *api.State)
	version(name string) int
}

// nothing is tables without objects.
func nothing() known {
	return known{
		pods: tableOf(teller[api.Pod]{
			name:   func(p api.Pod) string { return p.Name },
			member: func(o api.Object) api.Pod { return o.Pod },
			list:   func(s *api.State) *[]api.Pod { return &s.Pods },
		}),
		nodes: tableOf(teller[api.Node]{
			name:   func(n api.Node) string { return n.Name },
			member: func(o api.Object) api.Node { return o.Node },
			list:   func(s *api.State) *[]api.Node { return &s.Nodes },
		}),
		volumes: tableOf(teller[api.Volume]{
			name:   func(v api.Volume) string { return v.Name },
			member: func(o api.Object) api.Volume { return o.Volume },
			list:   func(s *api.State) *[]api.Volume { return &s.Volumes },
		}),
		claims: tableOf(teller[api.Claim]{
			name:   func(c api.Claim) string { return c.Name },
			member: func(o api.Object) api.Claim { return o.Claim },
			list:   func(s *api.State) *[]api.Claim { return &s.Claims },
		}),
		classes: tableOf(teller[api.Class]{
			name:   func(c api.Class) string { return c.Name },
			member: func(o api.Object) api.Class { return o.Class },
			list:   func(s *api.State) *[]api.Class { return &s.Classes },
		}),
		budgets: tableOf(teller[api.Budget]{
			name:   func(b api.Budget) string { return b.Name },
			member: func(o api.Object) api.Budget { return o.Budget },
			list:   func(s *api.State) *[]api.Budget { return &s.Budgets },
		}),
	}
}

// shelves are all tables, in the order of their kinds' numbers, from api.KPod on.
func (k known) shelves() []shelf {
	return []shelf{k.pods, k.nodes, k.volumes, k.claims, k.classes, k.budgets}
}

// shelf is the table of a kind, and whether there is such a kind.
func (k known) shelf(kind int) (shelf, bool) {
	if kind < api.KPod || kind > api.KBudget {
		return nil, false
	}
	return k.shelves()[kind-api.KPod], true
}

// state is all objects, in memory of its own.
func (k known) state() api.State {
	var s api.State
	for _, t := range k.shelves() {
		t.lay(&s)
	}
	return fresh.State(s)
}

// clone is tables of their own with the same objects.
func (k known) clone() known {
	return known{
		pods:    k.pods.clone(),
		nodes:   k.nodes.clone(),
		volumes: k.volumes.clone(),
		claims:  k.claims.clone(),
		classes: k.classes.clone(),
		budgets: k.budgets.clone(),
	}
}
