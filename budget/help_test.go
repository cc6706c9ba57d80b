package budget_test

import (
	"fmt"
	"math"
	"math/rand"
	"reflect"
	"slices"
	"testing"

	"stevedore/api"
	"stevedore/budget"
)

// same holds two answers against each other (an empty list is as none).
func same(t *testing.T, what string, got, want any) {
	t.Helper()
	if g, w := fmt.Sprintf("%+v", got), fmt.Sprintf("%+v", want); g != w {
		t.Errorf("%s: %s, want %s", what, g, w)
	}
}

func labels(texts ...string) []api.Label {
	var l []api.Label
	for k := 0; k < len(texts); k += 2 {
		l = append(l, api.Label{Key: texts[k], Value: texts[k+1]})
	}
	return l
}

// app asks for pods with that app.
func app(value string) []api.Req {
	return []api.Req{{Key: "app", Op: api.OpIn, Values: []string{value}}}
}

// on is a pod of that app that is bound.
func on(name, value string) api.Pod {
	return api.Pod{Name: name, Labels: labels("app", value), Node: "n"}
}

// waiting is a pod of that app that is not bound.
func waiting(name, value string) api.Pod {
	return api.Pod{Name: name, Labels: labels("app", value), Hope: "n"}
}

// ranked is a bound pod of that priority.
func ranked(name string, priority int) api.Pod {
	return api.Pod{Name: name, Priority: priority, Node: "n"}
}

// least is a budget about the app, of its own name.
func least(n int, value string) api.Budget {
	return api.Budget{Name: "b-" + value, Least: n, Reqs: app(value)}
}

func having(pods ...api.Pod) api.State { return api.State{Pods: pods} }

// with is s with those budgets.
func with(s api.State, l ...api.Budget) api.State {
	s.Budgets = l
	return s
}

// crowd is a pod of the app for each of the names, all bound.
func crowd(value string, names ...string) []api.Pod {
	var l []api.Pod
	for _, n := range names {
		l = append(l, on(n, value))
	}
	return l
}

// isAbout asks About and Allows.
func isAbout(t *testing.T, what string, s api.State, b api.Budget, allows int, names ...string) {
	t.Helper()
	same(t, what+": About", budget.About(s, b), names)
	same(t, what+": Allows", budget.Allows(s, b), allows)
	same(t, what+": by the words", []any{aboutByWords(s, b), allowsByWords(s, b)}, []any{names, allows})
}

// breaks asks Broken of victims.
func breaks(t *testing.T, what string, s api.State, victims []string, broken ...string) {
	t.Helper()
	same(t, what+": Broken", budget.Broken(s, victims), broken)
	same(t, what+": by the words", brokenByWords(s, victims), broken)
}

// ordered asks Order of names.
func ordered(t *testing.T, what string, s api.State, names []string, want ...string) {
	t.Helper()
	same(t, what+": Order", budget.Order(s, names), want)
	same(t, what+": by the words", orderByWords(s, names), want)
}

// names is a list of them.
func names(l ...string) []string { return l }

// orders is l in each order.
func orders[T any](l []T) [][]T {
	if len(l) == 0 {
		return [][]T{nil}
	}
	var out [][]T
	for k, x := range l {
		for _, rest := range orders(slices.Delete(slices.Clone(l), k, k+1)) {
			out = append(out, append([]T{x}, rest...))
		}
	}
	return out
}

func oneOf[T any](r *rand.Rand, l []T) T { return l[r.Intn(len(l))] }

func someNames() []string {
	return []string{"", "a", "ab", "b", "c", "d", "e", "f", "g", "h"}
}

// podLabels are labels of pods, of which some are not right.
func podLabels() [][]api.Label {
	return [][]api.Label{nil, {}, labels("app", "x"), labels("app", "x"), labels("app", "y"), labels("app", ""), labels("app", "y", "app", "x"), labels("app", "x", "tier", "1"), labels("tier", "1")}
}

func reqLists() [][]api.Req {
	exists := api.Req{Key: "tier", Op: api.OpExists}
	return [][]api.Req{
		nil, {}, app("x"), app("x"), app("y"), {{Key: "app", Op: api.OpNotIn, Values: []string{"x"}}}, {{Key: "tier", Op: api.OpLacks}},
		{exists}, append(app("x"), exists), {{Key: "app", Op: 9}}, {{}},
	}
}

func randomPod(r *rand.Rand, name string) api.Pod {
	return api.Pod{
		Name: name, Priority: oneOf(r, []int{0, 1, 1, 2, -1, -7, math.MaxInt, math.MinInt}), Labels: oneOf(r, podLabels()),
		Node: oneOf(r, []string{"n", "n", "m", "not there", ""}), Hope: oneOf(r, []string{"", "n"}),
	}
}

// randomState has up to that many pods and budgets, in any order, some of them of one name.
func randomState(r *rand.Rand, pods, budgets int) api.State {
	s := api.State{Nodes: []api.Node{{Name: "m"}, {Name: "n"}}}
	for range r.Intn(pods + 1) {
		s.Pods = append(s.Pods, randomPod(r, oneOf(r, someNames())))
	}
	for range r.Intn(budgets + 1) {
		s.Budgets = append(s.Budgets, randomBudget(r))
	}
	return s
}

func randomBudget(r *rand.Rand) api.Budget {
	return api.Budget{
		Name: oneOf(r, []string{"", "a", "b", "c", "d", "e"}), Reqs: oneOf(r, reqLists()),
		Least: oneOf(r, []int{0, 0, 1, 1, 2, 3, 4, -1, math.MaxInt, math.MinInt}),
	}
}

// randomVictims is up to n names, some of them twice or of nobody.
func randomVictims(r *rand.Rand, n int) []string {
	var l []string
	for range r.Intn(n + 1) {
		l = append(l, oneOf(r, append(someNames(), "nobody")))
	}
	return l
}

// opened is x copied with nothing shared, each list as long as its room: what stands behind the ends is seen, too.
func opened[T any](x T) T { return deep(reflect.ValueOf(x)).Interface().(T) }

func deep(v reflect.Value) reflect.Value {
	out := reflect.New(v.Type()).Elem()
	switch v.Kind() {
	case reflect.Struct:
		for k := range v.NumField() {
			out.Field(k).Set(deep(v.Field(k)))
		}
	case reflect.Slice:
		if v.IsNil() {
			break
		}
		v = v.Slice(0, v.Cap())
		out.Set(reflect.MakeSlice(v.Type(), v.Len(), v.Len()))
		for k := range v.Len() {
			out.Index(k).Set(deep(v.Index(k)))
		}
	default:
		out.Set(v)
	}
	return out
}

// roomy is l with room behind it, in which there is something.
func roomy[T any](l []T, behind T) []T { return append(slices.Clone(l), behind, behind)[:len(l)] }
