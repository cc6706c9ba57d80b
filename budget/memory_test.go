package budget_test

import (
	"math/rand"
	"reflect"
	"slices"
	"strconv"
	"testing"

	"stevedore/api"
	"stevedore/budget"
)

// Rule 4: what is handed in stays as it was, not even what stands behind a list's end is changed.
func TestHandedInStays(t *testing.T) {
	r := rand.New(rand.NewSource(190))
	for range 1000 {
		s, b, l := randomState(r, 8, 4), randomBudget(r), randomVictims(r, 8)
		for k := range s.Pods {
			s.Pods[k].Labels = roomy(s.Pods[k].Labels, api.Label{Key: "behind"})
		}
		for k := range s.Budgets {
			s.Budgets[k].Reqs = roomy(s.Budgets[k].Reqs, api.Req{Key: "behind"})
		}
		s.Pods, s.Budgets, l = roomy(s.Pods, on("behind", "x")), roomy(s.Budgets, least(1, "x")), roomy(l, "behind")
		now := struct {
			S api.State
			B api.Budget
			L []string
		}{s, b, l}
		was := opened(now)
		budget.About(s, b)
		budget.Allows(s, b)
		budget.Broken(s, l)
		budget.Order(s, l)
		if got := opened(now); !reflect.DeepEqual(got, was) {
			t.Fatalf("changed: %+v, was %+v", got, was)
		}
	}
}

// Rule 4: what is handed out is the caller's own: it shares no memory with the names, nor with another answer.
func TestHandedOutIsTheCallers(t *testing.T) {
	s := with(having(crowd("x", "a", "b", "c")...), least(3, "x"))
	l := names("a", "b", "c")
	for _, call := range []func() []string{
		func() []string { return budget.About(s, s.Budgets[0]) },
		func() []string { return budget.Broken(s, l) },
		func() []string { return budget.Order(s, l) },
	} {
		one, other := call(), call()
		for k := range one {
			one[k] = "spoilt"
		}
		_ = append(one, "more")
		same(t, "another answer", other, names("a", "b", "c"))
		same(t, "what was handed in", l, names("a", "b", "c"))
		same(t, "the next answer", call(), names("a", "b", "c"))
	}
}

// P1: no call panics, and each ends, whatever is handed in, of many members, too.
func TestManyMembers(t *testing.T) {
	var pods []api.Pod
	var all []string
	for k := range 20000 {
		pods = append(pods, on("p"+strconv.Itoa(k%10000), "x"))
		all = append(all, "p"+strconv.Itoa(k%10000))
	}
	s := with(having(pods...), least(4000, "x"), api.Budget{Name: "all"}, api.Budget{Name: "none", Least: 1, Reqs: []api.Req{{}}})
	same(t, "many: Allows", budget.Allows(s, s.Budgets[0]), 6000)
	same(t, "many: About", len(budget.About(s, s.Budgets[0])), 10000)
	same(t, "many: Broken", slices.Equal(budget.Broken(s, all), all[6000:10000]), true)
	same(t, "many: Order", len(budget.Order(s, all)), 10000)
	isAbout(t, "pods of nothing", having(make([]api.Pod, 3)...), api.Budget{}, 0)
	breaks(t, "pods of nothing", with(having(make([]api.Pod, 3)...), make([]api.Budget, 3)...), make([]string, 3))
	ordered(t, "pods of nothing", having(make([]api.Pod, 3)...), make([]string, 3), "")
}
