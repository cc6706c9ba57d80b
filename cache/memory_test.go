package cache_test

import (
	"reflect"
	"testing"

	"stevedore/api"
	"stevedore/cache"
)

// spoil writes into each list of v that it finds, behind its end, too, and deepest first.
func spoil(v reflect.Value) {
	switch v.Kind() {
	case reflect.Pointer:
		spoil(v.Elem())
	case reflect.Struct:
		for k := range v.NumField() {
			spoil(v.Field(k))
		}
	case reflect.Slice:
		v = v.Slice(0, v.Cap())
		for k := range v.Len() {
			spoil(v.Index(k))
			garble(v.Index(k))
		}
	}
}

// garble puts something else into each field that is a text, a number or a truth.
func garble(v reflect.Value) {
	switch v.Kind() {
	case reflect.Struct:
		for k := range v.NumField() {
			garble(v.Field(k))
		}
	case reflect.String:
		v.SetString("spoilt")
	case reflect.Int:
		v.SetInt(-77)
	case reflect.Bool:
		v.SetBool(!v.Bool())
	}
}

// spoilt writes into all lists of x.
func spoilt(x any) { spoil(reflect.ValueOf(x)) }

// copied is x with nothing shared; each list has room behind it, in which there is something.
func copied[T any](x T) T { return deep(reflect.ValueOf(x)).Interface().(T) }

func deep(v reflect.Value) reflect.Value {
	out := reflect.New(v.Type()).Elem()
	switch v.Kind() {
	case reflect.Struct:
		for k := range v.NumField() {
			out.Field(k).Set(deep(v.Field(k)))
		}
	case reflect.Slice:
		out.Set(reflect.MakeSlice(v.Type(), v.Len()+2, v.Len()+2))
		for k := range v.Len() {
			out.Index(k).Set(deep(v.Index(k)))
		}
		for k := v.Len(); k < v.Len()+2; k++ {
			garble(out.Index(k))
		}
		out.Set(out.Slice(0, v.Len()))
	default:
		out.Set(v)
	}
	return out
}

// rich has two objects of each kind, one with something in each list, one with a name alone.
func rich() api.State {
	var s api.State
	for _, kind := range allKinds() {
		s = merged(s, stateOf(full(kind, "full", 1), bare(kind, "x")))
	}
	return s
}

// listed is a cache to which all kinds of a state are listed.
func listed(t *testing.T, s api.State) *cache.Cache {
	t.Helper()
	c := cache.New()
	for _, kind := range allKinds() {
		list(t, c, kind, s, items("full", 3, "x", 4), items("full", 5, "x", 6))
	}
	return c
}

// Rule 4: what is handed in is not changed, and can be written into without a change in the cache.
func TestHandedIn(t *testing.T) {
	c := cache.New()
	var all []api.Object
	for _, kind := range allKinds() {
		for _, op := range []int{api.Added, api.Changed, api.Removed, api.Added, 9} {
			x := copied(change(1, op, full(kind, "full", kind)))
			c.Tell(x)
			same(t, "Tell changes nothing", x, change(1, op, full(kind, "full", kind)))
			was := look(c)
			spoilt(x)
			same(t, "what was told is written into", look(c), was)
		}
		all = append(all, full(kind, "full", kind))
		same(t, "Told", c.Told(), stateOf(all...))
	}
	s, versions, sights := copied(rich()), copied(items("full", 3, "x", 4)), copied(items("full", 5, "x", 6))
	c = cache.New()
	for _, kind := range append(allKinds(), noKinds()...) {
		c.List(kind, s, versions, sights)
		same(t, "List changes nothing", []any{s, versions, sights}, []any{rich(), items("full", 3, "x", 4), items("full", 5, "x", 6)})
	}
	was := look(c)
	spoilt(s)
	spoilt(versions)
	spoilt(sights)
	same(t, "what was listed is written into", look(c), was)
	same(t, "Told", c.Told(), rich())

	picks := copied(pairs("full", "full", "x", "x"))
	same(t, "Assume", int(c.Assume("full", "x", picks)), 0)
	c.Assume("full", "x", picks)
	same(t, "Assume changes nothing", picks, pairs("full", "full", "x", "x"))
	was = look(c)
	spoilt(picks)
	same(t, "picks are written into", look(c), was)
	same(t, "picks", whose(c.Belief()), []string{"full=full", "x=x", "full=full", "x=x"})
}

// grown is a cache with objects that have something in each list, told and listed, and with some that are assumed.
func grown(t *testing.T) *cache.Cache {
	t.Helper()
	c := listed(t, rich())
	for _, kind := range allKinds() {
		tell(t, c, 9, api.Added, full(kind, "told", 2))
	}
	for k, pod := range []string{"full", "told", "x"} {
		assume(t, c, pod, "told", pod, pod)
		arm(t, c, pod, k)
	}
	return c
}

// Rule 4: what is handed out is the caller's own.
func TestHandedOut(t *testing.T) {
	c := grown(t)
	was := look(c)
	for range 2 {
		spoilt(c.Told())
		same(t, "Told", look(c), was)
		spoilt(c.Belief())
		same(t, "Belief", look(c), was)
		spoilt(c.Assumed())
		same(t, "Assumed", look(c), was)
		d := c.Clone()
		spoilt(d.Told())
		spoilt(d.Belief())
		spoilt(d.Assumed())
		l, _ := d.Expire(17)
		same(t, "who expires", l, []string{"full", "told"})
		spoilt(l)
		same(t, "what a clone handed out", look(c), was)
		same(t, "what is left in it", look(d).told, was.told)
	}
}

// pieces tells where each list in v lies, room and all.
func pieces(v reflect.Value, tell func(from, to uintptr)) {
	switch v.Kind() {
	case reflect.Struct:
		for k := range v.NumField() {
			pieces(v.Field(k), tell)
		}
	case reflect.Slice:
		if v.Cap() > 0 {
			tell(v.Pointer(), v.Pointer()+uintptr(v.Cap())*v.Type().Elem().Size())
		}
		for k := range v.Len() {
			pieces(v.Index(k), tell)
		}
	}
}

// Rule 4: no two lists that are handed out share memory, in one answer or in two, even where what was handed in did.
func TestHandedOutApart(t *testing.T) {
	c := grown(t)
	o := full(api.KPod, "shared", 3)
	o.Pod.Near, o.Pod.Apart = o.Pod.Near[:1:1], o.Pod.Near[:1:1]
	tell(t, c, 10, api.Added, o)
	type piece struct{ from, to uintptr }
	var all []piece
	d := c.Clone()
	over, _ := d.Expire(40)
	for _, x := range []any{c.Told(), c.Told(), c.Belief(), c.Belief(), c.Clone().Told(), c.Clone().Belief(), c.Assumed(), c.Assumed(), over} {
		pieces(reflect.ValueOf(x), func(from, to uintptr) {
			for _, p := range all {
				if from < p.to && p.from < to {
					t.Fatal("two lists share memory")
				}
			}
			all = append(all, piece{from, to})
		})
	}
	if len(all) < 300 {
		t.Errorf("%d lists", len(all))
	}
}

// Rule 4: what was handed out stays as it was when the cache goes on.
func TestHandedOutStays(t *testing.T) {
	c := grown(t)
	a, b, who := c.Told(), c.Belief(), c.Assumed()
	wasA, wasB, wasWho := copied(a), copied(b), copied(who)
	over, _ := c.Expire(16)
	for _, kind := range allKinds() {
		tell(t, c, 20, api.Changed, full(kind, "told", 7))
		tell(t, c, 21, api.Removed, bare(kind, "full"))
		list(t, c, kind, stateOf(full(kind, "x", 8), full(kind, "a", 9)), nil, nil)
	}
	assume(t, c, "a", "x", "a", "a")
	same(t, "Told, Belief, Assumed, Expire", []any{a, b, who, over}, []any{wasA, wasB, wasWho, []string{"full"}})
}

// 15.3: a clone tells the same, and it and the cache go on apart, whichever of the two goes on.
func TestClone(t *testing.T) {
	for name, do := range map[string]func(c *cache.Cache){
		"Tell of a pod":          func(c *cache.Cache) { tell(t, c, 20, api.Changed, podOf(api.Pod{Name: "x", Node: "told"})) },
		"Tell of a node":         func(c *cache.Cache) { tell(t, c, 20, api.Changed, bare(api.KNode, "told")) },
		"Tell of what is new":    func(c *cache.Cache) { tell(t, c, 20, api.Added, bare(api.KClaim, "c")) },
		"Tell of what goes":      func(c *cache.Cache) { tell(t, c, 20, api.Removed, bare(api.KVolume, "full")) },
		"Tell of one removed":    func(c *cache.Cache) { tell(t, c, 20, api.Removed, bare(api.KPod, "full")) },
		"List of pods":           func(c *cache.Cache) { list(t, c, api.KPod, stateOf(on("p", "x")), nil, items("x", 70)) },
		"List of nodes":          func(c *cache.Cache) { list(t, c, api.KNode, stateOf(bare(api.KNode, "x")), nil, items("x", 70)) },
		"List of classes":        func(c *cache.Cache) { list(t, c, api.KClass, api.State{}, nil, nil) },
		"Forget":                 func(c *cache.Cache) { forget(t, c, "full") },
		"Arm":                    func(c *cache.Cache) { arm(t, c, "full", 40) },
		"Expire":                 func(c *cache.Cache) { expireIs(t, "Expire", c, 16, "full") },
		"Assume":                 func(c *cache.Cache) { forget(t, c, "x"); assume(t, c, "x", "x", "told", "full") },
		"a clone of its own":     func(c *cache.Cache) { forget(t, c.Clone(), "x"); forget(t, c, "told") },
		"Tell, and what it sees": func(c *cache.Cache) { tell(t, c, 20, api.Added, on("new", "told")) },
	} {
		c := grown(t)
		was := look(c)
		d := c.Clone()
		same(t, name+": the clone", look(d), was)
		do(d)
		if reflect.DeepEqual(look(d), was) {
			t.Errorf("%s does nothing", name)
		}
		same(t, name+": the cache, behind what the clone did", look(c), was)
		d = c.Clone()
		do(c)
		same(t, name+": the clone, behind what the cache did", look(d), was)
		do(d)
		same(t, name+": both did the same", look(d), look(c))
	}
}

// 15.3: a clone of a cache that was told nothing is one, too.
func TestCloneOfNothing(t *testing.T) {
	c := cache.New()
	d := c.Clone()
	tell(t, d, 1, api.Added, bare(api.KNode, "n"))
	tell(t, d, 2, api.Added, on("p", ""))
	assume(t, d, "p", "n")
	same(t, "the clone", where(d.Belief()), []string{"p@n"})
	same(t, "the cache", look(c), look(cache.New()))
}
