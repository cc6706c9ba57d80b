package preempt_test

import (
	"math/rand"
	"slices"
	"testing"

	"stevedore/api"
	"stevedore/feasible"
	"stevedore/fit"
	"stevedore/info"
	"stevedore/preempt"
)

// choices draws states in which somebody is chosen, and hands them on.
func choices(t *testing.T, seed int64, ask func(s api.State, p api.Pod, c api.Chosen)) {
	t.Helper()
	r := rand.New(rand.NewSource(seed))
	asked := 0
	for range 6000 {
		s, p := randomState(r), randomComer(r)
		if c, is := preempt.Choose(s, p); is {
			asked++
			ask(s, p, c)
		}
	}
	if asked < 800 {
		t.Errorf("drawn: %d", asked)
	}
}

// candidates draws states, and hands each candidate on.
func candidates(t *testing.T, seed int64, ask func(s api.State, p api.Pod, node string, victims []string)) {
	t.Helper()
	r := rand.New(rand.NewSource(seed))
	asked := 0
	for range 6000 {
		s, p := randomState(r), randomComer(r)
		for _, n := range nodeNames() {
			if victims, is := preempt.Victims(s, p, n); is {
				asked++
				ask(s, p, n, victims)
			}
		}
	}
	if asked < 2500 {
		t.Errorf("drawn: %d", asked)
	}
}

// 19.3: each victim is bound to the node, its priority below p's; it is none of p's name, and told once.
func TestLowerAlone(t *testing.T) {
	candidates(t, 194, func(s api.State, p api.Pod, node string, victims []string) {
		for k, v := range victims {
			q, there := podByWords(s, v)
			if !there || q.Node != node || q.Priority >= p.Priority || v == p.Name || slices.Contains(victims[:k], v) {
				t.Fatalf("%+v for %+v on %s: %v", s, p, node, victims)
			}
		}
	})
	choices(t, 195, func(s api.State, p api.Pod, c api.Chosen) {
		for _, v := range c.Victims {
			if q, _ := podByWords(s, v); q.Node != c.Node || q.Priority >= p.Priority {
				t.Fatalf("%+v for %+v: %+v", s, p, c)
			}
		}
	})
}

// 19.4: with the victims away p may stand on the chosen node, and might not anywhere before.
func TestThenItMay(t *testing.T) {
	choices(t, 196, func(s api.State, p api.Pod, c api.Chosen) {
		why, _ := feasible.Check(feasible.Without(s, c.Victims...), p, c.Node)
		if any := feasible.Any(s, p); why != 0 || len(any) > 0 {
			t.Fatalf("%+v for %+v: %+v: %d, and before %v", s, p, c, why, any)
		}
	})
}

// 19.5: with any one of the victims put back p does not fit.
func TestAsFewAsMustBe(t *testing.T) {
	candidates(t, 197, func(s api.State, p api.Pod, node string, victims []string) {
		for k := range victims {
			away := slices.Delete(slices.Clone(victims), k, k+1)
			for _, i := range info.All(feasible.Without(s, away...)) {
				if i.Node.Name == node && fit.Check(p, i) == 0 {
					t.Fatalf("%+v for %+v on %s: %v, and %v would do", s, p, node, victims, away)
				}
			}
		}
	})
}

// 19.6: no other candidate has fewer broken victims.
func TestNoneHasFewerBroken(t *testing.T) {
	more := 0
	choices(t, 198, func(s api.State, p api.Pod, c api.Chosen) {
		for _, other := range preempt.Candidates(s, p) {
			if other.Broken < c.Broken {
				t.Fatalf("%+v for %+v: %+v, and %+v", s, p, c, other)
			}
			if other.Broken > c.Broken {
				more++
			}
		}
	})
	if more < 50 {
		t.Errorf("drawn: %d", more)
	}
}
