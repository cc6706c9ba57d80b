package object_test

import (
	"fmt"
	"math"
	"math/rand"
	"reflect"
	"regexp"
	"strings"
	"testing"

	"stevedore/api"
)

var wordForm = regexp.MustCompile(`\A[a-z0-9./-]{1,32}\z`)

func allKinds() []int { return []int{1, 2, 3, 4, 5, 6} }

// noKinds are numbers of kinds that there are not; some would be kinds, if only their last bytes counted.
func noKinds() []int {
	return []int{0, 7, 8, -1, -6, 255, 256, 257, 1 << 32, 1<<32 + 1, -1<<32 + 2, math.MaxInt, math.MinInt, math.MinInt + 1}
}

// texts are words, and what only looks like them.
func texts() []string {
	return []string{
		"", "a", "z", "0", "9", "-", ".", "/", "zone", "a-b.c/d", "10", "-1",
		"A", "Z", "_", " ", ":", "@", "`", "{", "a b", "a\x00", "a\n", "\na", "é", "\xff",
		strings.Repeat("a", 31), strings.Repeat("a", 32), strings.Repeat("a", 33),
		strings.Repeat("a", 31) + "A", "A" + strings.Repeat("a", 31), strings.Repeat("é", 16), strings.Repeat("a", 4000),
	}
}

// named is n words that rise.
func named(n int) []string {
	l := make([]string, n)
	for i := range l {
		l[i] = fmt.Sprintf("n%04d", i)
	}
	return l
}

// repeat is a list of one thing, n times.
func repeat[T any](n int, x T) []T {
	l := make([]T, n)
	for i := range l {
		l[i] = x
	}
	return l
}

func has(key string) api.Req { return api.Req{Key: key, Op: api.OpExists} }

// bare is a right object with as little in it as may be.
func bare(kind int, name string) api.Object {
	o := api.Object{Kind: kind}
	switch kind {
	case api.KPod:
		o.Pod.Name = name
	case api.KNode:
		o.Node.Name = name
	case api.KVolume:
		o.Volume = api.Volume{Name: name, Class: "c"}
	case api.KClaim:
		o.Claim = api.Claim{Name: name, Class: "c"}
	case api.KClass:
		o.Class.Name = name
	case api.KBudget:
		o.Budget.Name = name
	}
	return o
}

// full is a right object with something in each of its fields.
func full(kind int, name string) api.Object {
	o := bare(kind, name)
	reqs := []api.Req{has("zone"), {Key: "a", Op: api.OpIn, Values: []string{"x", ""}}, {Key: "a", Op: api.OpAbove, Values: []string{"7"}}}
	labels := []api.Label{{Key: "a", Value: "1"}, {Key: "zone", Value: ""}}
	switch kind {
	case api.KPod:
		o.Pod = api.Pod{
			Name: name, Priority: -7, Labels: labels, Want: api.Res{CPU: 1, Mem: 2, Disk: 3},
			Bears: []api.Bear{{Key: "gpu", Value: "yes"}, {Any: true}}, Asks: reqs,
			Prefers: []api.Prefer{{Weight: 1}, {Reqs: reqs, Weight: 100}}, Ports: []int{1, 80, 65535},
			Near: []api.Term{{Reqs: reqs, Key: "zone"}, {Key: "host"}}, Apart: []api.Term{{Reqs: reqs, Key: "zone"}},
			Spreads: []api.Spread{{Key: "zone", Skew: 1, Least: 2, Reqs: reqs}}, Claims: []string{"c1", "c2"},
			Node: "n", Hope: "h",
		}
	case api.KNode:
		o.Node = api.Node{
			Name: name, Labels: labels, Taints: []api.Taint{{Key: "gpu", Value: "yes", Effect: api.EffectKeep}},
			Off: true, Give: api.Res{CPU: 4, Mem: 5, Disk: 6}, Pods: 110, Disks: 8,
		}
	case api.KVolume:
		o.Volume = api.Volume{Name: name, Size: 9, Class: "fast", Reqs: reqs, Claim: "c1"}
	case api.KClaim:
		o.Claim = api.Claim{Name: name, Size: 9, Class: "fast", Volume: "v1"}
	case api.KClass:
		o.Class.Wait = true
	case api.KBudget:
		o.Budget = api.Budget{Name: name, Reqs: reqs, Least: 3}
	}
	return o
}

// marked is a right object that can be told from others of its kind and name by n (and of a class: by n's being odd).
func marked(kind int, name string, n int) api.Object {
	o := bare(kind, name)
	switch kind {
	case api.KPod:
		o.Pod.Priority = n
	case api.KNode:
		o.Node.Pods = n
	case api.KVolume:
		o.Volume.Size = n
	case api.KClaim:
		o.Claim.Size = n
	case api.KClass:
		o.Class.Wait = n%2 == 1
	case api.KBudget:
		o.Budget.Least = n
	}
	return o
}

// stateOf is a state with these objects, just as they come, right or not.
func stateOf(l ...api.Object) api.State {
	var s api.State
	for _, o := range l {
		switch o.Kind {
		case api.KPod:
			s.Pods = append(s.Pods, o.Pod)
		case api.KNode:
			s.Nodes = append(s.Nodes, o.Node)
		case api.KVolume:
			s.Volumes = append(s.Volumes, o.Volume)
		case api.KClaim:
			s.Claims = append(s.Claims, o.Claim)
		case api.KClass:
			s.Classes = append(s.Classes, o.Class)
		case api.KBudget:
			s.Budgets = append(s.Budgets, o.Budget)
		}
	}
	return s
}

// listOf is what the state has of a kind, told by hand.
func listOf(s api.State, kind int) []api.Object {
	var l []api.Object
	switch kind {
	case api.KPod:
		for _, x := range s.Pods {
			l = append(l, api.Object{Kind: kind, Pod: x})
		}
	case api.KNode:
		for _, x := range s.Nodes {
			l = append(l, api.Object{Kind: kind, Node: x})
		}
	case api.KVolume:
		for _, x := range s.Volumes {
			l = append(l, api.Object{Kind: kind, Volume: x})
		}
	case api.KClaim:
		for _, x := range s.Claims {
			l = append(l, api.Object{Kind: kind, Claim: x})
		}
	case api.KClass:
		for _, x := range s.Classes {
			l = append(l, api.Object{Kind: kind, Class: x})
		}
	case api.KBudget:
		for _, x := range s.Budgets {
			l = append(l, api.Object{Kind: kind, Budget: x})
		}
	}
	return l
}

// withList is the state with another list of one kind.
func withList(s api.State, kind int, l []api.Object) api.State {
	var out []api.Object
	for _, k := range allKinds() {
		if k == kind {
			out = append(out, l...)
		} else {
			out = append(out, listOf(s, k)...)
		}
	}
	return stateOf(out...)
}

// nameOf is the name of an object that there is a kind for.
func nameOf(o api.Object) string {
	return map[int]string{
		1: o.Pod.Name, 2: o.Node.Name, 3: o.Volume.Name, 4: o.Claim.Name, 5: o.Class.Name, 6: o.Budget.Name,
	}[o.Kind]
}

// fewNames are names that meet often, and no names.
func fewNames() []string { return []string{"a", "b", "c", "a-", "10", "9", "", "B", "\xff"} }

// anyState is drawn by the seed: names twice, in any order, right or not.
func anyState(seed int64) api.State {
	r := rand.New(rand.NewSource(seed))
	var l []api.Object
	for _, kind := range allKinds() {
		for range r.Intn(7) {
			l = append(l, marked(kind, fewNames()[r.Intn(9)], r.Intn(1000)))
		}
	}
	return stateOf(l...)
}

// rightState is drawn by the seed: of each kind some of the words, rising.
func rightState(seed int64) api.State {
	r := rand.New(rand.NewSource(seed))
	var l []api.Object
	for _, kind := range allKinds() {
		for _, name := range []string{"10", "9", "a", "a-", "b", "c"} {
			if r.Intn(2) == 0 {
				l = append(l, marked(kind, name, r.Intn(1000)))
			}
		}
	}
	return stateOf(l...)
}

// many is a state with n objects of a kind, rising.
func many(kind, n int) api.State {
	var l []api.Object
	for _, name := range named(n) {
		l = append(l, bare(kind, name))
	}
	return stateOf(l...)
}

// alike holds values against each other; an empty list is as none.
func alike(a, b reflect.Value) bool {
	switch a.Kind() {
	case reflect.Slice:
		if a.Len() != b.Len() {
			return false
		}
		for i := range a.Len() {
			if !alike(a.Index(i), b.Index(i)) {
				return false
			}
		}
		return true
	case reflect.Struct:
		for i := range a.NumField() {
			if !alike(a.Field(i), b.Field(i)) {
				return false
			}
		}
		return true
	}
	return a.Equal(b)
}

func same[T any](t *testing.T, what string, got, want T) {
	t.Helper()
	if !alike(reflect.ValueOf(got), reflect.ValueOf(want)) {
		t.Errorf("%s: %+v, want %+v", what, got, want)
	}
}
