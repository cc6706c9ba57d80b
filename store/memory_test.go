package store_test

import (
	"reflect"
	"testing"

	"stevedore/api"
	"stevedore/store"
)

// scribble writes into each list of v that it finds, behind its end, too, and deepest first.
func scribble(v reflect.Value) {
	switch v.Kind() {
	case reflect.Struct:
		for k := range v.NumField() {
			scribble(v.Field(k))
		}
	case reflect.Slice:
		v = v.Slice(0, v.Cap())
		for k := range v.Len() {
			scribble(v.Index(k))
			spoil(v.Index(k))
		}
	}
}

// spoil puts something else into each field that is a text, a number or a truth.
func spoil(v reflect.Value) {
	switch v.Kind() {
	case reflect.Struct:
		for k := range v.NumField() {
			spoil(v.Field(k))
		}
	case reflect.String:
		v.SetString("scribbled")
	case reflect.Int:
		v.SetInt(-77)
	case reflect.Bool:
		v.SetBool(!v.Bool())
	}
}

// spoilt writes into all lists of x.
func spoilt(x any) { scribble(reflect.ValueOf(x)) }

// copied is v with nothing shared; each list has room behind it, in which there is something.
func copied[T any](x T) T { return deep(reflect.ValueOf(x)).Interface().(T) }

func deep(v reflect.Value) reflect.Value {
	out := reflect.New(v.Type()).Elem()
	switch v.Kind() {
	case reflect.Struct:
		for k := range v.NumField() {
			out.Field(k).Set(deep(v.Field(k)))
		}
	case reflect.Slice:
		out.Set(reflect.MakeSlice(v.Type(), v.Len()+2, v.Len()+2))
		for k := range v.Len() {
			out.Index(k).Set(deep(v.Index(k)))
		}
		out.Set(out.Slice(0, v.Len()))
	default:
		out.Set(v)
	}
	return out
}

// rich is a state in which each kind has an object with something in each list.
func rich() api.State {
	s := stateOf(full(api.KPod, "p"), full(api.KNode, "n"), full(api.KVolume, "v"), full(api.KClass, "k"), full(api.KBudget, "g"))
	s.Pods = append(s.Pods, api.Pod{Name: "q", Node: "n", Labels: []api.Label{{Key: "app", Value: "x"}}})
	s.Claims = []api.Claim{{Name: "c", Size: 1, Class: "k"}, {Name: "d", Size: 2, Class: "k"}}
	return s
}

// Rule 4: what is handed in is not changed, and can be written into without a change in the store.
func TestHandedIn(t *testing.T) {
	s := copied(rich())
	x := opened(t, s)
	same(t, "New changes nothing", s, rich())
	spoilt(s)
	same(t, "State", x.State(), rich())
	for _, kind := range allKinds() {
		o := copied(full(kind, "new"))
		comesTo(t, "put", put(x, o), kind)
		same(t, "Put changes nothing", o, full(kind, "new"))
		spoilt(o)
		got, _, _ := x.Get(kind, "new")
		same(t, "Get", got, full(kind, "new"))
		same(t, "Log", x.Log(kind - 1)[0].Object, full(kind, "new"))
	}
	y := opened(t, crowd())
	e := api.Evict{For: "p", Node: "n", Victims: []string{"c", "a"}}
	comesTo(t, "Evict", evict(y, e), 2)
	same(t, "Evict changes nothing", e, api.Evict{For: "p", Node: "n", Victims: []string{"c", "a"}})
	y.Evict(api.Evict{For: "p", Node: "n", Victims: []string{"c", "a", "c"}})
	same(t, "a refused one neither", e.Victims, []string{"c", "a"})
	y = opened(t, sample())
	b := asSeen(y, "p", "m", "ca", "va", "cb", "vb")
	comesTo(t, "Bind", bind(y, b), 5)
	same(t, "Bind changes nothing", b.Picks, pairs("ca", "va", "cb", "vb"))
	was := look(y)
	spoilt(b.Picks)
	same(t, "picks written into", look(y), was)
}

// grown is a store with many changes behind it, of objects with something in each list.
func grown(t *testing.T) *store.Store {
	x := opened(t, rich())
	for _, kind := range allKinds() {
		x.Put(full(kind, "new"))
		x.Put(full(kind, "new"))
		x.Put(full(kind, "old"))
		x.Delete(kind, "old")
	}
	x.Hope("new", "n")
	x.Put(podOf(api.Pod{Name: "q", Labels: []api.Label{{Key: "app", Value: "y"}}}))
	return x
}

// Rule 4: what is handed out is the caller's own.
func TestHandedOut(t *testing.T) {
	x := grown(t)
	was := copied(tellsOf(x))
	check := func(what string) {
		t.Helper()
		same(t, what, tellsOf(x), was)
	}
	for range 2 {
		spoilt(x.State())
		check("State")
		spoilt(x.Log(-1))
		check("Log")
		spoilt(x.Log(3))
		check("Log of some")
		for _, kind := range allKinds() {
			for _, name := range []string{"new", "p", "q", "n", "v", "c", "k", "g"} {
				o, _, _ := x.Get(kind, name)
				spoilt(o)
				check("Get")
			}
			spoilt(x.Versions(kind))
			spoilt(x.Sights(kind))
			check("Versions and Sights")
		}
		y := x.Clone()
		spoilt(y.State())
		spoilt(y.Log(0))
		check("what a clone handed out")
		same(t, "the clone itself", tellsOf(y), was)
	}
}

// told is look without maps, so that it can be copied.
type told struct {
	State   api.State
	Log     []api.Change
	Lists   [][]api.Item
	Version int
}

func tellsOf(x *store.Store) told {
	l := told{State: x.State(), Log: x.Log(0), Version: x.Version()}
	for _, kind := range allKinds() {
		l.Lists = append(l.Lists, x.Versions(kind), x.Sights(kind))
	}
	return l
}

// pieces tells where each list in v lies, room and all.
func pieces(v reflect.Value, tell func(from, to uintptr)) {
	switch v.Kind() {
	case reflect.Struct:
		for k := range v.NumField() {
			pieces(v.Field(k), tell)
		}
	case reflect.Slice:
		if v.Cap() > 0 {
			tell(v.Pointer(), v.Pointer()+uintptr(v.Cap())*v.Type().Elem().Size())
		}
		for k := range v.Len() {
			pieces(v.Index(k), tell)
		}
	}
}

// Rule 4: no two lists that are handed out share memory, in one answer or in two.
func TestHandedOutApart(t *testing.T) {
	x := grown(t)
	a, _, _ := x.Get(api.KPod, "new")
	b, _, _ := x.Get(api.KPod, "new")
	type piece struct{ from, to uintptr }
	var all []piece
	for _, v := range []any{x.State(), x.State(), x.Log(0), x.Log(0), a, b, x.Clone().State(), x.Clone().Log(0)} {
		pieces(reflect.ValueOf(v), func(from, to uintptr) {
			for _, p := range all {
				if from < p.to && p.from < to {
					t.Fatal("two lists share memory")
				}
			}
			all = append(all, piece{from, to})
		})
	}
	if len(all) < 300 {
		t.Errorf("%d lists", len(all))
	}
}

// Rule 4: states and logs that were handed out do not change when the store goes on.
func TestHandedOutStays(t *testing.T) {
	x := grown(t)
	kept, was := tellsOf(x), copied(tellsOf(x))
	x.Delete(api.KNode, "n")
	x.Delete(api.KNode, "new")
	for _, kind := range allKinds() {
		x.Put(bare(kind, "new"))
		x.Put(bare(kind, "a"))
		x.Delete(kind, "p")
	}
	same(t, "what was handed out", kept, was)
}
