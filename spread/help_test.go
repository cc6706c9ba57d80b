package spread_test

import (
	"math"
	"math/rand"
	"reflect"
	"slices"
	"sort"
	"strconv"
	"testing"

	"stevedore/api"
	"stevedore/spread"
)

// labels are as they are told, right or not.
func labels(texts ...string) []api.Label {
	var l []api.Label
	for k := 0; k < len(texts); k += 2 {
		l = append(l, api.Label{Key: texts[k], Value: texts[k+1]})
	}
	return l
}

func zone(value string) []api.Label { return labels("zone", value) }

// zones is a node for each value of zone, named by its place.
func zones(values ...string) []api.Node {
	var l []api.Node
	for k, v := range values {
		l = append(l, api.Node{Name: "n" + strconv.Itoa(k), Labels: zone(v)})
	}
	return l
}

// having is a node for each of those labels.
func having(lists ...[]api.Label) []api.Node {
	var l []api.Node
	for k, x := range lists {
		l = append(l, api.Node{Name: "n" + strconv.Itoa(k), Labels: x})
	}
	return l
}

// app asks for pods with that app.
func app(value string) []api.Req {
	return []api.Req{{Key: "app", Op: api.OpIn, Values: []string{value}}}
}

// at is a pod of that app that is placed.
func at(name, value string, where []api.Label) api.Placed {
	return api.Placed{Pod: api.Pod{Name: name, Labels: labels("app", value), Node: "n"}, Labels: where}
}

// many is n pods of the app x, each of a name of its own.
func many(n int, where []api.Label) []api.Placed {
	var l []api.Placed
	for k := range n {
		l = append(l, at("m"+strconv.Itoa(k), "x", where))
	}
	return l
}

// x is a spread of the app x over zones.
func x(skew, least int) api.Spread {
	return api.Spread{Key: "zone", Skew: skew, Least: least, Reqs: app("x")}
}

// pod is p with the app x, and those spreads.
func pod(l ...api.Spread) api.Pod {
	return api.Pod{Name: "p", Labels: labels("app", "x"), Spreads: l}
}

// other is p with an app that no spread asks for.
func other(l ...api.Spread) api.Pod {
	return api.Pod{Name: "p", Labels: labels("app", "other"), Spreads: l}
}

// why is WhySpread, if it is so.
func why(is bool) int {
	if is {
		return api.WhySpread
	}
	return 0
}

func told(t *testing.T, what string, p api.Pod, where []api.Label, nodes []api.Node, placed []api.Placed, want int) {
	t.Helper()
	if got := spread.Check(p, where, nodes, placed); got != want {
		t.Errorf("%s: Check: %d, want %d", what, got, want)
	}
	if got := whyByWords(p, where, nodes, placed); got != want {
		t.Errorf("%s: by the words: %d, want %d", what, got, want)
	}
}

// shown asks for Counts and Skew; the counts are pairs of a value and digits.
func shown(t *testing.T, what string, s api.Spread, nodes []api.Node, placed []api.Placed, skew int, counts ...string) {
	t.Helper()
	if got, want := spread.Counts(s, nodes, placed), labels(counts...); !slices.Equal(got, want) {
		t.Errorf("%s: Counts: %v, want %v", what, got, want)
	}
	if got := spread.Skew(s, nodes, placed); got != skew {
		t.Errorf("%s: Skew: %d, want %d", what, got, skew)
	}
	if got, want := countsByWords(s, nodes, placed), labels(counts...); !slices.Equal(got, want) {
		t.Errorf("%s: Counts by the words: %v, want %v", what, got, want)
	}
}

// has is the first value of a key, or none.
func has(l []api.Label, key string) []string {
	for _, x := range l {
		if x.Key == key {
			return []string{x.Value}
		}
	}
	return nil
}

// meets knows the Ops that reqLists has, and one that there is not.
func meets(l []api.Label, reqs []api.Req) bool {
	for _, r := range reqs {
		value := has(l, r.Key)
		in := len(value) == 1 && slices.Contains(r.Values, value[0])
		met := r.Op == api.OpIn && in || r.Op == api.OpNotIn && !in || r.Op == api.OpExists && value != nil || r.Op == api.OpLacks && value == nil
		if !met {
			return false
		}
	}
	return true
}

// domainsByWords is the values that nodes' labels have of the spread's key, each once, rising.
func domainsByWords(s api.Spread, nodes []api.Node) []string {
	var out []string
	for _, n := range nodes {
		for _, v := range has(n.Labels, s.Key) {
			if !slices.Contains(out, v) {
				out = append(out, v)
			}
		}
	}
	sort.Strings(out)
	return out
}

// countByWords is how many of what is placed meet the Reqs and have labels of that domain.
func countByWords(s api.Spread, value string, placed []api.Placed) int {
	n := 0
	for _, x := range placed {
		if meets(x.Pod.Labels, s.Reqs) && slices.Equal(has(x.Labels, s.Key), []string{value}) {
			n++
		}
	}
	return n
}

func countsByWords(s api.Spread, nodes []api.Node, placed []api.Placed) []api.Label {
	var out []api.Label
	for _, v := range domainsByWords(s, nodes) {
		out = append(out, api.Label{Key: v, Value: strconv.Itoa(countByWords(s, v, placed))})
	}
	return out
}

// boundsByWords is the least and the greatest count of the domains; 0 and 0, if there are none.
func boundsByWords(s api.Spread, nodes []api.Node, placed []api.Placed) (int, int) {
	least, greatest := 0, 0
	for k, v := range domainsByWords(s, nodes) {
		n := countByWords(s, v, placed)
		if k == 0 || n < least {
			least = n
		}
		greatest = max(greatest, n)
	}
	return least, greatest
}

// whyByWords is the chapter's sentence.
func whyByWords(p api.Pod, where []api.Label, nodes []api.Node, placed []api.Placed) int {
	var others []api.Placed
	for _, x := range placed {
		if x.Pod.Name != p.Name {
			others = append(others, x)
		}
	}
	for _, s := range p.Spreads {
		here := has(where, s.Key)
		if here == nil {
			return api.WhySpread
		}
		n := countByWords(s, here[0], others)
		if meets(p.Labels, s.Reqs) {
			n++
		}
		least, _ := boundsByWords(s, nodes, others)
		if len(domainsByWords(s, nodes)) < s.Least {
			least = 0
		}
		if n-least > s.Skew {
			return api.WhySpread
		}
	}
	return 0
}

func oneOf[T any](r *rand.Rand, l []T) T { return l[r.Intn(len(l))] }

// labelLists are labels of nodes, of which some are not right.
func labelLists() [][]api.Label {
	return [][]api.Label{
		nil, {}, zone("1"), zone("2"), zone("9"), zone("10"), zone(""), labels("rack", "1"), labels("rack", "1", "zone", "1"), labels("rack", "2", "zone", "1"),
		labels("rack", "1", "zone", "2"), labels("rack", "", "zone", ""), labels("zone", "1", "zone", "2"), labels("zone", "2", "rack", "2", "zone", "1"),
		labels("", "1"), labels("app", "x", "zone", "3"),
	}
}

// podLabels are labels of pods, of which some are not right.
func podLabels() [][]api.Label {
	return [][]api.Label{nil, {}, labels("app", "x"), labels("app", "y"), labels("app", ""), labels("app", "x", "app", "y"), labels("app", "y", "tier", "1"), labels("tier", "1")}
}

func reqLists() [][]api.Req {
	return [][]api.Req{
		nil, {}, app("x"), app("y"), app(""), {{Key: "app", Op: api.OpIn, Values: []string{"y", "x"}}}, {{Key: "app", Op: api.OpNotIn, Values: []string{"x"}}},
		{{Key: "app", Op: api.OpExists}}, {{Key: "tier", Op: api.OpLacks}}, {{Key: "tier", Op: api.OpExists}, {Key: "app", Op: api.OpExists}}, {{Key: "app", Op: 9}},
	}
}

func randomSpread(r *rand.Rand) api.Spread {
	return api.Spread{
		Key:  oneOf(r, []string{"zone", "zone", "zone", "rack", "", "host"}),
		Skew: oneOf(r, []int{0, 1, 1, 1, 2, 2, 3, -1, math.MaxInt, math.MinInt}), Least: oneOf(r, []int{0, 0, 1, 2, 3, 4, 5, -1, math.MaxInt, math.MinInt}),
		Reqs: oneOf(r, reqLists()),
	}
}

func randomSpreads(r *rand.Rand, n int) []api.Spread {
	var l []api.Spread
	for range r.Intn(n + 1) {
		l = append(l, randomSpread(r))
	}
	return l
}

func randomPod(r *rand.Rand, name string, n int) api.Pod {
	return api.Pod{Name: name, Labels: oneOf(r, podLabels()), Spreads: randomSpreads(r, n)}
}

// randomNodes is up to n nodes, some of them of one name.
func randomNodes(r *rand.Rand, n int) []api.Node {
	var l []api.Node
	for k := range r.Intn(n + 1) {
		l = append(l, api.Node{Name: oneOf(r, []string{"n", "", "m" + strconv.Itoa(k)}), Labels: oneOf(r, labelLists()), Off: r.Intn(4) == 0})
	}
	return l
}

// randomPlaced is up to n pods, some of them just alike, some of the name p.
func randomPlaced(r *rand.Rand, n int) []api.Placed {
	var l []api.Placed
	for k := range r.Intn(n + 1) {
		name := oneOf(r, []string{"a", "b", "p", "", "c" + strconv.Itoa(k)})
		x := api.Placed{Pod: randomPod(r, name, r.Intn(2)), Labels: oneOf(r, labelLists())}
		l = append(l, x)
		if r.Intn(5) == 0 {
			l = append(l, x)
		}
	}
	return l
}

// opened is x copied with nothing shared, each list as long as its room: what stands behind the ends is seen, too.
func opened[T any](x T) T { return deep(reflect.ValueOf(x)).Interface().(T) }

func deep(v reflect.Value) reflect.Value {
	out := reflect.New(v.Type()).Elem()
	switch v.Kind() {
	case reflect.Struct:
		for k := range v.NumField() {
			out.Field(k).Set(deep(v.Field(k)))
		}
	case reflect.Slice:
		if v.IsNil() {
			break
		}
		v = v.Slice(0, v.Cap())
		out.Set(reflect.MakeSlice(v.Type(), v.Len(), v.Len()))
		for k := range v.Len() {
			out.Index(k).Set(deep(v.Index(k)))
		}
	default:
		out.Set(v)
	}
	return out
}

// roomy is l with room behind it, in which there is something.
func roomy[T any](l []T, behind T) []T { return append(slices.Clone(l), behind, behind)[:len(l)] }
