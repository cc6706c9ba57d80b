package object_test

import (
	"fmt"
	"math/rand"
	"slices"
	"testing"

	"stevedore/api"
	"stevedore/object"
)

// getByWords, putByWords and removeByWords are the chapter's sentences over what listOf tells.
func getByWords(s api.State, kind int, name string) (api.Object, bool) {
	for _, o := range listOf(s, kind) {
		if nameOf(o) == name {
			return o, true
		}
	}
	return api.Object{}, false
}

func removeByWords(s api.State, kind int, name string) (api.State, bool) {
	var l []api.Object
	gone := false
	for _, o := range listOf(s, kind) {
		if !gone && nameOf(o) == name {
			gone = true
			continue
		}
		l = append(l, o)
	}
	return withList(s, kind, l), gone
}

func putByWords(s api.State, o api.Object) (api.State, bool) {
	var l []api.Object
	_, there := getByWords(s, o.Kind, nameOf(o))
	done := false
	for _, x := range listOf(s, o.Kind) {
		if !done && there && nameOf(x) == nameOf(o) {
			l = append(l, o)
			done = true
			continue
		}
		if !done && !there && nameOf(x) > nameOf(o) {
			l = append(l, o)
			done = true
		}
		l = append(l, x)
	}
	if !done {
		l = append(l, o)
	}
	return withList(s, o.Kind, l), there
}

func put(t *testing.T, s api.State, o api.Object) api.State {
	t.Helper()
	u, _, e := object.Put(s, o)
	if e != api.OK {
		t.Fatalf("Put of %+v: %d", o, e)
	}
	return u
}

func classNames(s api.State) []string {
	var l []string
	for _, c := range s.Classes {
		l = append(l, c.Name)
	}
	return l
}

// 4.2: the chapter's example.
func TestPutExample(t *testing.T) {
	s := put(t, api.State{}, bare(api.KClass, "b"))
	s, was, e := object.Put(s, bare(api.KClass, "a"))
	same(t, "classes", s, api.State{Classes: []api.Class{{Name: "a"}, {Name: "b"}}})
	same(t, "in another one's place", was, false)
	same(t, "error", e, api.OK)
}

// 4.2: into each place, of each kind, with all that is in an object.
func TestPutEachKind(t *testing.T) {
	for _, kind := range allKinds() {
		var s api.State
		want := map[string]api.Object{}
		for i, name := range []string{"c", "a", "e", "b", "d", "c", "a", "e"} {
			o := full(kind, name)
			if i%2 == 0 {
				o = bare(kind, name)
			}
			var was bool
			var e api.Errno
			s, was, e = object.Put(s, o)
			same(t, fmt.Sprint("Put, kind ", kind, ": in another one's place"), was, i >= 5)
			same(t, fmt.Sprint("Put, kind ", kind), e, api.OK)
			want[name] = o
			got, ok := object.Get(s, kind, name)
			same(t, fmt.Sprint("Get, kind ", kind), got, o)
			same(t, fmt.Sprint("Get, kind ", kind, ": there is one"), ok, true)
		}
		var l []api.Object
		for _, name := range []string{"a", "b", "c", "d", "e"} {
			l = append(l, want[name])
		}
		same(t, fmt.Sprint("state, kind ", kind), s, stateOf(l...))
		same(t, fmt.Sprint("All, kind ", kind), object.All(s, kind), l)
		same(t, fmt.Sprint("Count, kind ", kind), object.Count(s, kind), 5)
	}
}

// 4.2: the place among names that do not rise, or stand twice.
func TestPutInStatesThatAreNot(t *testing.T) {
	for _, c := range []struct {
		names []string
		put   string
		want  []string
		was   bool
	}{
		{[]string{"c", "a"}, "b", []string{"b", "c", "a"}, false},
		{[]string{"a", "d", "b", "e"}, "c", []string{"a", "c", "d", "b", "e"}, false},
		{[]string{"c", "b", "a"}, "d", []string{"c", "b", "a", "d"}, false},
		{[]string{"d", "c", "a"}, "a", []string{"d", "c", "a"}, true},
		{[]string{"a", "b", "a"}, "a", []string{"a", "b", "a"}, true},
		{[]string{"", "B", "\xff"}, "a", []string{"", "B", "a", "\xff"}, false},
	} {
		s := api.State{}
		for _, n := range c.names {
			s.Classes = append(s.Classes, api.Class{Name: n})
		}
		u, was, e := object.Put(s, marked(api.KClass, c.put, 1))
		same(t, fmt.Sprintf("Put %q into %q", c.put, c.names), classNames(u), c.want)
		same(t, fmt.Sprintf("Put %q into %q: place", c.put, c.names), was, c.was)
		same(t, fmt.Sprintf("Put %q into %q: error", c.put, c.names), e, api.OK)
		waits := slices.IndexFunc(u.Classes, func(x api.Class) bool { return x.Wait })
		same(t, fmt.Sprintf("Put %q into %q: the first one", c.put, c.names), waits, slices.Index(c.want, c.put))
	}
}

// 4.2: MaxObjects of a kind, with one more and with one of a name that is there.
func TestPutAtMaxObjects(t *testing.T) {
	for _, kind := range allKinds() {
		for _, n := range []int{255, 256, 257, 300} {
			s := many(kind, n)
			for _, name := range []string{"a", "n0100x", "zz"} {
				u, was, e := object.Put(s, bare(kind, name))
				if n >= 256 {
					same(t, fmt.Sprint("one more than ", n, ", kind ", kind), e, api.ErrLong)
					same(t, "refused, and told to take a place", was, false)
					same(t, "refused, and a state told", u, api.State{})
					continue
				}
				same(t, fmt.Sprint("one more than ", n, ", kind ", kind), e, api.OK)
				same(t, "how many then", object.Count(u, kind), n+1)
			}
			for _, name := range []string{"n0000", "n0100", "n0254"} {
				u, was, e := object.Put(s, full(kind, name))
				want, _ := putByWords(s, full(kind, name))
				same(t, fmt.Sprint("the same name among ", n, ", kind ", kind), e, api.OK)
				same(t, "it took another one's place", was, true)
				same(t, "state", u, want)
			}
			// other kinds have their own room
			for _, other := range allKinds() {
				if _, _, e := object.Put(s, bare(other, "a")); other != kind && e != api.OK {
					t.Errorf("Put of kind %d beside %d of kind %d: %d", other, n, kind, e)
				}
			}
			same(t, "what was handed in", s, many(kind, n))
		}
	}
}

// 4.2: what Check refuses is refused, with nothing told, ahead of ErrLong.
func TestPutRefuses(t *testing.T) {
	refused := func(what string, s api.State, o api.Object, want api.Errno) {
		t.Helper()
		u, was, e := object.Put(s, o)
		same(t, what, e, want)
		same(t, what+": state", u, api.State{})
		same(t, what+": place", was, false)
	}
	for _, x := range edits() {
		o := x.object()
		if x.right {
			if _, _, e := object.Put(anyState(1), o); e != api.OK {
				t.Errorf("Put of %s: %d", x.what, e)
			}
			continue
		}
		refused("Put of "+x.what, rightState(1), o, api.ErrObject)
		refused("Put of "+x.what+" into its own place", stateOf(o), o, api.ErrObject)
	}
	for _, kind := range allKinds() {
		refused("nothing into a full state", many(kind, 256), api.Object{Kind: kind}, api.ErrObject)
		two := full(kind, "a")
		two.Claim.Size, two.Class.Wait = 1, true
		refused("two kinds", api.State{}, two, api.ErrObject)
		for _, no := range noKinds() {
			o := full(kind, "a")
			o.Kind = no
			refused("no such kind", rightState(int64(kind)), o, api.ErrArg)
			refused("no such kind into a full state", many(kind, 256), o, api.ErrArg)
		}
	}
}

// 4.2: kinds that there are not have no objects.
func TestNoKinds(t *testing.T) {
	for _, kind := range noKinds() {
		for seed := range int64(20) {
			s := anyState(seed)
			for _, name := range fewNames() {
				o, ok := object.Get(s, kind, name)
				same(t, fmt.Sprint("Get of kind ", kind), o, api.Object{})
				same(t, fmt.Sprint("Get of kind ", kind, ": there is one"), ok, false)
				u, gone := object.Remove(s, kind, name)
				same(t, fmt.Sprint("Remove of kind ", kind), u, s)
				same(t, fmt.Sprint("Remove of kind ", kind, ": there was one"), gone, false)
			}
			same(t, fmt.Sprint("Count of kind ", kind), object.Count(s, kind), 0)
			same(t, fmt.Sprint("All of kind ", kind), object.All(s, kind), nil)
		}
	}
}

// 4.2: as the words say, whatever the state is; and what was handed in stays as it was.
func TestByWords(t *testing.T) {
	for seed := range int64(60) {
		s := anyState(seed)
		for _, kind := range allKinds() {
			same(t, "Count", object.Count(s, kind), len(listOf(s, kind)))
			same(t, "All", object.All(s, kind), listOf(s, kind))
			for _, name := range fewNames() {
				what := fmt.Sprintf("kind %d, name %q of state %d: ", kind, name, seed)
				o, ok := object.Get(s, kind, name)
				want, wantOK := getByWords(s, kind, name)
				same(t, what+"Get", o, want)
				same(t, what+"Get: there is one", ok, wantOK)

				u, gone := object.Remove(s, kind, name)
				left, wantGone := removeByWords(s, kind, name)
				same(t, what+"Remove", u, left)
				same(t, what+"Remove: there was one", gone, wantGone)

				if !wordForm.MatchString(name) {
					continue
				}
				v, was, e := object.Put(s, marked(kind, name, 777))
				more, wantWas := putByWords(s, marked(kind, name, 777))
				same(t, what+"Put", v, more)
				same(t, what+"Put: place", was, wantWas)
				same(t, what+"Put: error", e, api.OK)
			}
		}
		same(t, "what was handed in", s, anyState(seed))
	}
}

// scribble writes into each list of a state.
func scribble(s api.State) {
	for i := range s.Pods {
		s.Pods[i] = api.Pod{Name: "scribbled"}
	}
	for i := range s.Nodes {
		s.Nodes[i] = api.Node{Name: "scribbled"}
	}
	for i := range s.Volumes {
		s.Volumes[i] = api.Volume{Name: "scribbled"}
	}
	for i := range s.Claims {
		s.Claims[i] = api.Claim{Name: "scribbled"}
	}
	for i := range s.Classes {
		s.Classes[i] = api.Class{Name: "scribbled"}
	}
	for i := range s.Budgets {
		s.Budgets[i] = api.Budget{Name: "scribbled"}
	}
}

// 4.2: the states that are told have lists of their own: who writes into one changes no other.
func TestStatesHaveTheirOwnLists(t *testing.T) {
	for seed := range int64(50) {
		for _, kind := range append(allKinds(), 0, 7) {
			for _, name := range []string{"a", "b", "zz", ""} {
				s := anyState(seed)
				u, _ := object.Remove(s, kind, name)
				scribble(u)
				same(t, "handed to Remove", s, anyState(seed))
				u, _ = object.Remove(s, kind, name)
				scribble(s)
				want, _ := object.Remove(anyState(seed), kind, name)
				same(t, "told by Remove", u, want)
				if kind < 1 || kind > 6 || name == "" {
					continue
				}
				s = anyState(seed)
				u, _, _ = object.Put(s, marked(kind, name, 5))
				scribble(u)
				same(t, "handed to Put", s, anyState(seed))
				u, _, _ = object.Put(s, marked(kind, name, 5))
				scribble(s)
				want, _, _ = object.Put(anyState(seed), marked(kind, name, 5))
				same(t, "told by Put", u, want)
			}
			s := anyState(seed)
			l := object.All(s, kind)
			for i := range l {
				l[i] = everyMember("scribbled")
			}
			same(t, "handed to All", s, anyState(seed))
		}
	}
}

// 4.2: nothing is written behind the end of a list that was handed in, even where there is room.
func TestRoomBehindLists(t *testing.T) {
	row := func() []api.Class { return []api.Class{{Name: "a"}, {Name: "c"}, {Name: "x"}, {Name: "y"}} }
	for _, name := range []string{"a", "b", "c", "d", "0"} {
		l := row()
		object.Put(api.State{Classes: l[:2]}, marked(api.KClass, name, 1))
		object.Remove(api.State{Classes: l[:2]}, api.KClass, name)
		object.CheckState(api.State{Classes: l[:2]})
		same(t, "behind "+name, l, row())
	}
}

// 4.3: of a right state Put and Remove make right ones.
func TestRightStatesStayRight(t *testing.T) {
	for seed := range int64(100) {
		r := rand.New(rand.NewSource(seed))
		s := rightState(seed)
		same(t, "the first one", object.CheckState(s), api.OK)
		for range 60 {
			kind, name := 1+r.Intn(6), fewNames()[r.Intn(9)]
			if r.Intn(3) == 0 {
				s, _ = object.Remove(s, kind, name)
			} else if u, _, e := object.Put(s, marked(kind, name, r.Intn(1000))); e == api.OK {
				s = u
			}
			if object.CheckState(s) != api.OK {
				t.Fatalf("not right any more: %+v", s)
			}
		}
	}
	for _, kind := range allKinds() { // and where there is no room for one more
		s := many(kind, 256)
		u, _, e := object.Put(s, full(kind, "n0007"))
		same(t, "Put into a full state", e, api.OK)
		same(t, "a full state, behind a Put", object.CheckState(u), api.OK)
		u, _ = object.Remove(s, kind, "n0255")
		same(t, "a full state, behind a Remove", object.CheckState(put(t, u, full(kind, "a"))), api.OK)
	}
}

// 4.4: what was put is got, and nothing else is another one.
func TestPutIsGot(t *testing.T) {
	for seed := range int64(30) {
		for _, s := range []api.State{anyState(seed), rightState(seed)} {
			for _, kind := range allKinds() {
				for _, name := range []string{"a", "b", "a-", "10", "new"} {
					o := full(kind, name)
					u := put(t, s, o)
					got, ok := object.Get(u, kind, name)
					same(t, "what was put", got, o)
					same(t, "there is one", ok, true)
					othersStay(t, s, u, kind, name)
				}
			}
		}
	}
}

// othersStay asks that all but one name of one kind is in u as in s.
func othersStay(t *testing.T, s, u api.State, kind int, name string) {
	t.Helper()
	for _, k := range allKinds() {
		for _, n := range append(fewNames(), "new") {
			if k == kind && n == name {
				continue
			}
			x, inS := object.Get(s, k, n)
			y, inU := object.Get(u, k, n)
			same(t, fmt.Sprintf("another one, %d %q", k, n), y, x)
			same(t, fmt.Sprintf("another one, %d %q, is there", k, n), inU, inS)
		}
		if k != kind {
			same(t, "another kind", object.All(u, k), object.All(s, k))
		}
	}
}

// 4.4: Remove undoes a Put of what was not there, and takes nothing else.
func TestRemoveUndoesPut(t *testing.T) {
	undone := 0
	for seed := range int64(30) {
		for _, s := range []api.State{anyState(seed), rightState(seed), {}} {
			for _, kind := range allKinds() {
				for _, name := range []string{"a", "b", "a-", "10", "new"} {
					u, was, _ := object.Put(s, full(kind, name))
					v, gone := object.Remove(u, kind, name)
					same(t, "there was one", gone, true)
					othersStay(t, s, v, kind, name)
					if !was {
						undone++
						same(t, "undone", v, s)
						_, gone = object.Remove(v, kind, name)
						same(t, "twice", gone, false)
					}
				}
			}
		}
	}
	if undone < 500 {
		t.Errorf("only %d were undone", undone)
	}
}

// eachOrder tells all orders of 0 to n - 1.
func eachOrder(n int, tell func([]int)) {
	var next func(order []int)
	next = func(order []int) {
		if len(order) == n {
			tell(order)
			return
		}
		for i := range n {
			if !slices.Contains(order, i) {
				next(append(slices.Clone(order), i))
			}
		}
	}
	next(nil)
}

// 4.5: the order in which objects of several names are put does not count.
func TestOrderOfPuts(t *testing.T) {
	for seed := range int64(20) {
		r := rand.New(rand.NewSource(seed))
		var l []api.Object
		for i, name := range []string{"10", "9", "a", "a-", "b"} {
			kind := 1 + int(seed)%6 // of one kind, or of several
			if seed >= 12 {
				kind = 1 + r.Intn(6)
			}
			l = append(l, marked(kind, name, i))
		}
		for _, s := range []api.State{{}, rightState(seed), anyState(seed)} {
			var want api.State
			first := true
			eachOrder(len(l), func(order []int) {
				u := s
				for _, i := range order {
					u = put(t, u, l[i])
				}
				if first {
					want, first = u, false
				}
				same(t, fmt.Sprint("order ", order), u, want)
			})
		}
	}
}
