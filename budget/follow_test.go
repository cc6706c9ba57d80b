package budget_test

import (
	"math/rand"
	"slices"
	"testing"

	"stevedore/api"
	"stevedore/budget"
)

// aboutOne is the budgets of s, the first of each name, that are about a pod of that name.
func aboutOne(s api.State, name string) []api.Budget {
	var out []api.Budget
	for _, b := range budgetsByWords(s) {
		if slices.Contains(budget.About(s, b), name) {
			out = append(out, b)
		}
	}
	return out
}

// counted is the victims that count, as About of a budget that asks for nothing tells who is bound.
func counted(s api.State, victims []string) []string {
	var out []string
	bound := budget.About(s, api.Budget{})
	for _, v := range victims {
		if slices.Contains(bound, v) && !slices.Contains(out, v) {
			out = append(out, v)
		}
	}
	return out
}

// gone is s without the pods of those names.
func gone(s api.State, names []string) api.State {
	s.Pods = slices.DeleteFunc(slices.Clone(s.Pods), func(p api.Pod) bool { return slices.Contains(names, p.Name) })
	return s
}

// 18.3: as many victims as all budgets that are about them allow break nothing; with no budgets nothing is broken.
func TestAsManyAsAllAllow(t *testing.T) {
	r := rand.New(rand.NewSource(186))
	asked := 0
	for range 8000 {
		s := randomState(r, 12, 4)
		var victims []string
		// Victims are taken, as long as each budget that is about them allows still as many as it is about among them.
		for _, v := range counted(s, randomVictims(r, 9)) {
			more := append(slices.Clone(victims), v)
			if allowedByAll(s, more) {
				victims = more
			}
		}
		if len(victims) > 1 && len(s.Budgets) > 0 {
			asked++
		}
		if got := budget.Broken(s, victims); len(got) != 0 {
			t.Fatalf("Broken(%+v, %v): %v", s, victims, got)
		}
		if got := budget.Broken(with(s), randomVictims(r, 9)); len(got) != 0 {
			t.Fatalf("Broken of no budgets: %v", got)
		}
	}
	if asked < 800 {
		t.Errorf("drawn: %d", asked)
	}
}

func allowedByAll(s api.State, victims []string) bool {
	for _, b := range budgetsByWords(s) {
		about, n := budget.About(s, b), 0
		for _, v := range victims {
			if slices.Contains(about, v) {
				n++
			}
		}
		if n > 0 && n > budget.Allows(s, b) {
			return false
		}
	}
	return true
}

// 18.4: of victims that one budget alone is about the first so many are not broken, the others are.
func TestOneBudgetAlone(t *testing.T) {
	r := rand.New(rand.NewSource(187))
	asked := 0
	for range 8000 {
		s := randomState(r, 12, 3)
		b := randomBudget(r)
		b.Name = "alone"
		s.Budgets = append(s.Budgets, b)
		var victims []string
		for _, v := range counted(s, randomVictims(r, 14)) {
			if l := aboutOne(s, v); len(l) == 1 && l[0].Name == "alone" {
				victims = append(victims, v)
			}
		}
		n := min(budget.Allows(s, b), len(victims))
		if n > 0 && n < len(victims) {
			asked++
		}
		if got := budget.Broken(s, victims); !slices.Equal(got, victims[n:]) {
			t.Fatalf("Broken(%+v, %v): %v, want %v", s, victims, got, victims[n:])
		}
	}
	if asked < 100 {
		t.Errorf("drawn: %d", asked)
	}
}

// 18.5: a victim more, behind the others, changes nothing of those ahead.
func TestOneVictimMore(t *testing.T) {
	r := rand.New(rand.NewSource(188))
	added := 0
	for range 8000 {
		s, victims := randomState(r, 12, 4), randomVictims(r, 9)
		was := budget.Broken(s, victims)
		for _, v := range append(someNames(), "nobody") {
			got := budget.Broken(s, append(slices.Clone(victims), v))
			if len(got) > len(was) {
				added++
			}
			more := len(got) == len(was)+1 && got[len(was)] == v && !slices.Contains(was, v)
			if len(got) != len(was) && !more || !slices.Equal(got[:len(was)], was) {
				t.Fatalf("Broken(%+v, %v and %s): %v, was %v", s, victims, v, got, was)
			}
		}
	}
	if added < 2000 {
		t.Errorf("drawn: %d", added)
	}
	s := with(having(crowd("x", "a", "b", "c")...), least(1, "x"))
	breaks(t, "two", s, names("c", "b"))
	breaks(t, "a third one", s, names("c", "b", "a"), "a")
	breaks(t, "a fourth one", s, names("c", "b", "a", "z"), "a")
}

// 18.6: what is left behind victims of which none is broken has, of each budget, at least Least, or as many as there were.
func TestWhatIsLeft(t *testing.T) {
	r := rand.New(rand.NewSource(189))
	asked := 0
	for range 8000 {
		s, victims := randomState(r, 12, 4), randomVictims(r, 4)
		if len(budget.Broken(s, victims)) > 0 {
			continue
		}
		left := gone(s, counted(s, victims))
		for _, b := range budgetsByWords(s) {
			was, is := len(budget.About(s, b)), len(budget.About(left, b))
			if is < was {
				asked++
			}
			if is < b.Least && is != was {
				t.Fatalf("%+v: behind %v of %+v there are %d, were %d", s, victims, b, is, was)
			}
		}
	}
	if asked < 400 {
		t.Errorf("drawn: %d", asked)
	}
}
