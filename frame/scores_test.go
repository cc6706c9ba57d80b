package frame_test

import (
	"fmt"
	"testing"

	"stevedore/api"
	"stevedore/frame"
)

func scoring(name string, weight int, scores ...int) api.Plugin {
	return api.Plugin{Name: name, Weight: weight, Scores: scores}
}

// 17.2: for each place the scores times the weights, added.
func TestScores(t *testing.T) {
	for _, c := range []struct {
		what string
		l    []api.Plugin
		want []int
	}{
		{"no plugins", nil, nil},
		{"no scores", []api.Plugin{scoring("a", 5), scoring("b", 7)}, nil},
		{"an empty list of scores", []api.Plugin{{Name: "a", Weight: 5, Scores: []int{}}}, nil},
		{"one", []api.Plugin{scoring("a", 1, 7)}, []int{7}},
		{"one, weighed", []api.Plugin{scoring("a", 3, 7, 0, 100)}, []int{21, 0, 300}},
		{"a weight of 0", []api.Plugin{scoring("a", 0, 7, 8)}, []int{0, 0}},
		{"weights of 0 among others", []api.Plugin{scoring("a", 0, 7, 8), scoring("b", 2, 1, 2), scoring("c", 0, 9, 9)}, []int{2, 4}},
		{"several", []api.Plugin{scoring("a", 2, 1, 5), scoring("b", 1, 10, 0), scoring("c", 0, 0, 0)}, []int{12, 10}},
		{"the order counts for nothing", []api.Plugin{scoring("c", 10, 3, 1, 4), scoring("b", 1, 1, 5, 9), scoring("a", 100, 2, 6, 5)}, []int{231, 615, 549}},
		{"scores of 0", []api.Plugin{scoring("a", 100, 0, 0), scoring("b", 100, 0, 0)}, []int{0, 0}},
		{"the greatest", []api.Plugin{scoring("a", 100, 100), scoring("b", 100, 100)}, []int{20000}},
	} {
		f := frameOf(t, c.l...)
		same(t, c.what, f.Scores(), c.want)
		same(t, c.what+", asked again", f.Scores(), c.want)
	}
}

// 17.2: as many plugins as may be, with the greatest scores and weights; and very many scores.
func TestManyScores(t *testing.T) {
	l := many(api.MaxItems)
	for k := range l {
		l[k].Weight, l[k].Scores = api.MaxWeight, []int{api.MaxScore, k, api.MaxScore}
	}
	same(t, "the greatest", frameOf(t, l...).Scores(), []int{640000, 201600, 640000})

	const n = 30000
	a, b := make([]int, n), make([]int, n)
	for k := range n {
		a[k], b[k] = k%101, (k/101)%101
	}
	for k, sum := range frameOf(t, scoring("a", 3, a...), scoring("b", 50, b...)).Scores() {
		if sum != 3*a[k]+50*b[k] {
			t.Fatalf("place %d: %d", k, sum)
		}
	}
}

// 17.2: what was run and who skips changes no score; and to ask for them notes nothing.
func TestScoresBesideRuns(t *testing.T) {
	l := []api.Plugin{scoring("a", 2, 1, 5), scoring("b", 1, 10, 0)}
	l[0].Before, l[1].Filter, l[1].Reserve = skip, no, fault
	f := frameOf(t, l...)
	for _, point := range append(allPoints(), 0, 6) {
		f.Run(point)
		was := f.Calls()
		same(t, fmt.Sprint("behind ", point), f.Scores(), []int{12, 10})
		same(t, "nothing is noted", f.Calls(), was)
	}
	f.Reset()
	same(t, "behind Reset", f.Scores(), []int{12, 10})
	same(t, "of a clone", f.Clone().Scores(), []int{12, 10})
	runIs(t, "asked", f, frame.Filter, no, "a:2", "b:2")
}
