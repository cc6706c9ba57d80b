package near_test

import (
	"math/rand"
	"reflect"
	"slices"
	"strconv"
	"testing"

	"stevedore/api"
	"stevedore/near"
)

// labels are as they are told, right or not.
func labels(texts ...string) []api.Label {
	var l []api.Label
	for k := 0; k < len(texts); k += 2 {
		l = append(l, api.Label{Key: texts[k], Value: texts[k+1]})
	}
	return l
}

func zone(value string) []api.Label { return labels("zone", value) }

// app is a term of pods with that app, in the same domain of a key.
func app(value, key string) api.Term {
	return api.Term{Key: key, Reqs: []api.Req{{Key: "app", Op: api.OpIn, Values: []string{value}}}}
}

// at is a pod of that app that is placed.
func at(name, value string, where []api.Label) api.Placed {
	return api.Placed{Pod: api.Pod{Name: name, Labels: labels("app", value), Node: "n"}, Labels: where}
}

// keeping is x with terms Apart.
func keeping(x api.Placed, terms ...api.Term) api.Placed {
	x.Pod.Apart = terms
	return x
}

// told asks for why not by each of the ways that there are: at once, by a table of all, by one that grows, by one from which others were dropped, by a clone.
func told(t *testing.T, what string, p api.Pod, where []api.Label, placed []api.Placed, want int) {
	t.Helper()
	if got := near.Check(p, where, placed); got != want {
		t.Errorf("%s: Check: %d, want %d", what, got, want)
	}
	if got := whyByWords(p, where, placed); got != want {
		t.Errorf("%s: by the words: %d, want %d", what, got, want)
	}
	whole := near.New(p, placed...)
	tells(t, what+": New", whole, where, want)
	tells(t, what+": Clone", whole.Clone(), where, want)
	grown := near.New(p)
	for _, x := range placed {
		does(t, what+": Add", grown.Add(x), api.OK)
	}
	tells(t, what+": Add by Add", grown, where, want)
	more := []api.Placed{at("more", "x", where), keeping(at("most", "y", where), api.Term{Key: "zone"})}
	shrunk := near.New(p, slices.Concat(more, placed)...)
	for _, x := range more {
		does(t, what+": Drop", shrunk.Drop(x), api.OK)
	}
	tells(t, what+": others dropped", shrunk, where, want)
}

// tells asks a table that a call made.
func tells(t *testing.T, what string, x *near.Table, where []api.Label, want int) {
	t.Helper()
	if got, e := x.Check(where); got != want || e != api.OK {
		t.Errorf("%s: %d %d, want %d", what, got, e, want)
	}
}

func does(t *testing.T, what string, got, want api.Errno) {
	t.Helper()
	if got != want {
		t.Errorf("%s: %d, want %d", what, got, want)
	}
}

// has is the first value of a key, or none.
func has(l []api.Label, key string) []string {
	for _, x := range l {
		if x.Key == key {
			return []string{x.Value}
		}
	}
	return nil
}

func together(a, b []api.Label, key string) bool {
	x, y := has(a, key), has(b, key)
	return len(x) == 1 && len(y) == 1 && x[0] == y[0]
}

// meets knows the Ops that terms draws, and one that there is not.
func meets(l []api.Label, reqs []api.Req) bool {
	for _, r := range reqs {
		value := has(l, r.Key)
		in := len(value) == 1 && slices.Contains(r.Values, value[0])
		met := r.Op == api.OpIn && in || r.Op == api.OpNotIn && !in || r.Op == api.OpExists && value != nil || r.Op == api.OpLacks && value == nil
		if !met {
			return false
		}
	}
	return true
}

// allByWords is the chapter's sentence, with nothing counted.
func allByWords(p api.Pod, where []api.Label, placed []api.Placed) []int {
	var there []api.Placed
	for _, x := range placed {
		if x.Pod.Name != p.Name {
			there = append(there, x)
		}
	}
	some := func(is func(api.Placed) bool) bool { return slices.ContainsFunc(there, is) }
	var lacks, apart, others bool
	for _, m := range p.Near {
		beside := some(func(x api.Placed) bool { return meets(x.Pod.Labels, m.Reqs) && together(x.Labels, where, m.Key) })
		anywhere := some(func(x api.Placed) bool { return meets(x.Pod.Labels, m.Reqs) && has(x.Labels, m.Key) != nil })
		lacks = lacks || has(where, m.Key) == nil || !beside && !(!anywhere && meets(p.Labels, m.Reqs))
	}
	for _, m := range p.Apart {
		apart = apart || some(func(x api.Placed) bool { return meets(x.Pod.Labels, m.Reqs) && together(x.Labels, where, m.Key) })
	}
	for _, x := range there {
		for _, m := range x.Pod.Apart {
			others = others || meets(p.Labels, m.Reqs) && together(x.Labels, where, m.Key)
		}
	}
	var out []int
	for why, is := range map[int]bool{api.WhyNear: lacks, api.WhyApart: apart, api.WhyOthers: others} {
		if is {
			out = append(out, why)
		}
	}
	slices.Sort(out)
	return out
}

func whyByWords(p api.Pod, where []api.Label, placed []api.Placed) int {
	return append(allByWords(p, where, placed), 0)[0]
}

func oneOf[T any](r *rand.Rand, l []T) T { return l[r.Intn(len(l))] }

// labelLists are labels of nodes, of which some are not right.
func labelLists() [][]api.Label {
	return [][]api.Label{
		nil, {}, zone("1"), zone("2"), zone(""), labels("rack", "1"), labels("rack", "1", "zone", "1"), labels("rack", "2", "zone", "1"),
		labels("rack", "1", "zone", "2"), labels("rack", "", "zone", ""), labels("zone", "1", "zone", "2"), labels("zone", "2", "rack", "2", "zone", "1"),
		labels("", "1"), labels("app", "x", "zone", "3"),
	}
}

// podLabels are labels of pods, of which some are not right.
func podLabels() [][]api.Label {
	return [][]api.Label{nil, {}, labels("app", "x"), labels("app", "y"), labels("app", ""), labels("app", "x", "app", "y"), labels("app", "y", "tier", "1"), labels("tier", "1")}
}

func terms(r *rand.Rand, n int) []api.Term {
	reqs := [][]api.Req{
		nil, {}, {{Key: "app", Op: api.OpIn, Values: []string{"x"}}}, {{Key: "app", Op: api.OpIn, Values: []string{"y", "x"}}},
		{{Key: "app", Op: api.OpIn, Values: []string{"y"}}}, {{Key: "app", Op: api.OpNotIn, Values: []string{"x"}}}, {{Key: "app", Op: api.OpExists}},
		{{Key: "tier", Op: api.OpLacks}}, {{Key: "tier", Op: api.OpExists}, {Key: "app", Op: api.OpExists}}, {{Key: "app", Op: 9}},
		{{Key: "app", Op: api.OpIn, Values: []string{""}}},
	}
	var l []api.Term
	for range r.Intn(n + 1) {
		l = append(l, api.Term{Key: oneOf(r, []string{"zone", "zone", "rack", "", "host"}), Reqs: oneOf(r, reqs)})
	}
	return l
}

// randomPod wants more of others, the greater n is.
func randomPod(r *rand.Rand, name string, n int) api.Pod {
	return api.Pod{Name: name, Labels: oneOf(r, podLabels()), Near: terms(r, n), Apart: terms(r, n)}
}

// randomPlaced is up to n pods, some of them just alike, some of the name p.
func randomPlaced(r *rand.Rand, n int) []api.Placed {
	var l []api.Placed
	for k := range r.Intn(n + 1) {
		name := oneOf(r, []string{"a", "b", "p", "", "c" + strconv.Itoa(k)})
		x := api.Placed{Pod: randomPod(r, name, r.Intn(2)), Labels: oneOf(r, labelLists())}
		l = append(l, x)
		if r.Intn(5) == 0 {
			l = append(l, x)
		}
	}
	return l
}

// full is something placed with each field of the pod set, and each list of several members.
func full() api.Placed {
	reqs := func() []api.Req {
		return []api.Req{{Key: "app", Op: api.OpIn, Values: []string{"x", "y"}}, {Key: "tier", Op: api.OpExists, Values: []string{"1", "2"}}}
	}
	both := func() []api.Term { return []api.Term{{Reqs: reqs(), Key: "zone"}, {Reqs: reqs(), Key: "rack"}} }
	return api.Placed{
		Pod: api.Pod{
			Name: "a", Priority: 5, Labels: labels("app", "x", "tier", "1"), Want: api.Res{CPU: 1, Mem: 2, Disk: 3},
			Bears: []api.Bear{{Key: "gpu", Value: "yes", Any: true, Effect: 1}, {Key: "old", Value: "no", Effect: 2}}, Asks: reqs(),
			Prefers: []api.Prefer{{Reqs: reqs(), Weight: 1}, {Reqs: reqs(), Weight: 2}}, Ports: []int{80, 443}, Near: both(), Apart: both(),
			Spreads: []api.Spread{{Key: "zone", Skew: 1, Least: 2, Reqs: reqs()}, {Key: "rack", Skew: 3, Least: 4, Reqs: reqs()}},
			Claims:  []string{"c", "d"}, Node: "n", Hope: "m",
		},
		Labels: labels("rack", "1", "zone", "1"),
	}
}

// copied is x with nothing shared.
func copied[T any](x T) T { return deep(reflect.ValueOf(x), false).Interface().(T) }

// opened is x copied, with each list as long as its room: what stands behind the ends is seen, too.
func opened[T any](x T) T { return deep(reflect.ValueOf(x), true).Interface().(T) }

func deep(v reflect.Value, open bool) reflect.Value {
	out := reflect.New(v.Type()).Elem()
	switch v.Kind() {
	case reflect.Struct:
		for k := range v.NumField() {
			out.Field(k).Set(deep(v.Field(k), open))
		}
	case reflect.Slice:
		if v.IsNil() {
			break
		}
		if open {
			v = v.Slice(0, v.Cap())
		}
		out.Set(reflect.MakeSlice(v.Type(), v.Len(), v.Len()))
		for k := range v.Len() {
			out.Index(k).Set(deep(v.Index(k), open))
		}
	default:
		out.Set(v)
	}
	return out
}

// each goes through v and all that is in it.
func each(v reflect.Value, visit func(reflect.Value)) {
	visit(v)
	switch v.Kind() {
	case reflect.Struct:
		for k := range v.NumField() {
			each(v.Field(k), visit)
		}
	case reflect.Slice:
		for k := range v.Len() {
			each(v.Index(k), visit)
		}
	}
}

// spoil writes over all that x's lists hold, at whatever depth.
func spoil[T any](x []T) {
	each(reflect.ValueOf(x), func(v reflect.Value) {
		switch {
		case !v.CanSet():
		case v.Kind() == reflect.String:
			v.SetString("spoilt")
		case v.Kind() == reflect.Int:
			v.SetInt(-77)
		case v.Kind() == reflect.Bool:
			v.SetBool(!v.Bool())
		}
	})
}
