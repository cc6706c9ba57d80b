package fresh_test

import (
	"reflect"
	"testing"

	"stevedore/api"
	"stevedore/fresh"
)

// fill puts something into each field of v, two members into each list, with room behind them.
func fill(v reflect.Value, n *int) {
	*n++
	switch v.Kind() {
	case reflect.Struct:
		for k := range v.NumField() {
			fill(v.Field(k), n)
		}
	case reflect.Slice:
		v.Set(reflect.MakeSlice(v.Type(), 2, 5))
		for k := range v.Len() {
			fill(v.Index(k), n)
		}
	case reflect.String:
		v.SetString(string(rune('a' + *n%26)))
	case reflect.Bool:
		v.SetBool(true)
	default:
		v.SetInt(int64(*n))
	}
}

func filled[T any]() T {
	var x T
	n := 0
	fill(reflect.ValueOf(&x).Elem(), &n)
	return x
}

// memory gathers where each list in v lies, room and all.
func memory(v reflect.Value, tell func(from, to uintptr)) {
	switch v.Kind() {
	case reflect.Struct:
		for k := range v.NumField() {
			memory(v.Field(k), tell)
		}
	case reflect.Slice:
		if v.Cap() > 0 {
			from := v.Pointer()
			tell(from, from+uintptr(v.Cap())*v.Type().Elem().Size())
		}
		for k := range v.Len() {
			memory(v.Index(k), tell)
		}
	}
}

// apart asks that no two lists of what is handed in lie in the same memory, and tells how many there are.
func apart(t *testing.T, what string, all ...any) int {
	t.Helper()
	type piece struct{ from, to uintptr }
	var seen []piece
	for _, x := range all {
		memory(reflect.ValueOf(x), func(from, to uintptr) {
			for _, p := range seen {
				if from < p.to && p.from < to {
					t.Errorf("%s: two lists share memory", what)
				}
			}
			seen = append(seen, piece{from, to})
		})
	}
	return len(seen)
}

// A copy has all that was there, and shares no list with it, however deep.
func TestCopies(t *testing.T) {
	s, o, l := filled[api.State](), filled[api.Object](), filled[[]api.Change]()
	for _, c := range []struct {
		what      string
		was, copy any
	}{
		{"State", s, fresh.State(s)},
		{"Object", o, fresh.Object(o)},
		{"Changes", l, fresh.Changes(l)},
	} {
		if !reflect.DeepEqual(c.was, c.copy) {
			t.Errorf("%s: %+v, want %+v", c.what, c.copy, c.was)
		}
		if n, m := apart(t, c.what, c.was, c.copy), apart(t, c.what, c.was); n != 2*m || m < 40 {
			t.Errorf("%s: %d lists in both, %d in one", c.what, n, m)
		}
	}
}

// Lists that lie in the same memory are apart in a copy.
func TestCopiesOfShared(t *testing.T) {
	reqs := []api.Req{{Key: "k", Op: api.OpIn, Values: []string{"v"}}}
	p := api.Pod{Name: "p", Asks: reqs, Prefers: []api.Prefer{{Reqs: reqs}}, Near: []api.Term{{Reqs: reqs}, {Reqs: reqs}}, Spreads: []api.Spread{{Reqs: reqs}}}
	o := api.Object{Kind: api.KPod, Pod: p}
	s := api.State{Pods: []api.Pod{p, p}, Budgets: []api.Budget{{Reqs: reqs}}, Volumes: []api.Volume{{Reqs: reqs}}}
	apart(t, "State", fresh.State(s))
	apart(t, "Object", fresh.Object(o))
	apart(t, "Changes", fresh.Changes([]api.Change{{Object: o}, {Object: o}}))
}

// A list without members is the same, however it was handed in.
func TestCopiesOfNothing(t *testing.T) {
	s := api.State{Pods: []api.Pod{}, Nodes: make([]api.Node, 0, 3), Budgets: []api.Budget{}}
	if got := fresh.State(s); !reflect.DeepEqual(got, api.State{}) {
		t.Errorf("State: %#v", got)
	}
	o := api.Object{Kind: 9, Pod: api.Pod{Ports: []int{}, Near: []api.Term{}}, Volume: api.Volume{Reqs: []api.Req{}}}
	if got := fresh.Object(o); !reflect.DeepEqual(got, api.Object{Kind: 9}) {
		t.Errorf("Object: %#v", got)
	}
	if got := fresh.Changes(nil); got != nil {
		t.Errorf("Changes: %#v", got)
	}
}
