package heap_test

import (
	"math"
	"math/rand"
	"reflect"
	"slices"
	"strconv"
	"testing"

	"stevedore/api"
	"stevedore/heap"
)

// 5.1, example 1.
func TestExample(t *testing.T) {
	h := filled(t, item("a", 1, 5), item("b", 2, 9), item("c", 1, 4))
	sameItems(t, "Pop", emptied(t, h), []api.Item{item("b", 2, 9), item("c", 1, 4), item("a", 1, 5)})
}

// 5.1: a new heap has no entries; each call, on it and on one that was emptied.
func TestWithoutEntries(t *testing.T) {
	dropped := filled(t, item("a", 1, 5))
	dropped.Drop("a")
	popped := filled(t, item("a", 1, 5), item("b", 0, 0))
	emptied(t, popped)
	for what, h := range map[string]*heap.Heap{
		"new": heap.New(), "a clone": heap.New().Clone(), "dropped": dropped, "popped": popped, "a clone of popped": popped.Clone(),
	} {
		holds(t, what, h, nil)
		if x, e := h.Pop(); x != (api.Item{}) || e != api.ErrNone {
			t.Errorf("%s: Pop: %+v %d", what, x, e)
		}
		for _, key := range []string{"a", ""} {
			if x, e := h.Drop(key); x != (api.Item{}) || e != api.ErrNone {
				t.Errorf("%s: Drop(%q): %+v %d", what, key, x, e)
			}
		}
		holds(t, what+", behind what was refused", h, nil)
		if was, e := h.Push(item("a", 7, 8)); was || e != api.OK {
			t.Errorf("%s: Push: %t %d", what, was, e)
		}
		holds(t, what+", with one", h, []api.Item{item("a", 7, 8)})
	}
}

// 5.1: heaps of New are apart.
func TestNewOnesAreApart(t *testing.T) {
	g, h := heap.New(), heap.New()
	g.Push(item("a", 1, 1))
	holds(t, "the other one", h, nil)
	holds(t, "the one", g, []api.Item{item("a", 1, 1)})
}

// 5.1: an entry whose key is there takes that one's place, and moves to where it belongs.
func TestPushOfAKeyThatIsThere(t *testing.T) {
	l := []api.Item{item("a", 5, 5), item("b", 4, 5), item("aa", 3, 5), item("ab", 2, 5), item("z", 1, 5)}
	for _, old := range l {
		for _, x := range []api.Item{
			item(old.Key, 9, 0), item(old.Key, 0, 0), item(old.Key, old.Rank, 4), item(old.Key, old.Rank, 6), old,
			item(old.Key, 3, 4), item(old.Key, 3, 6), item(old.Key, 3, 5),
			item(old.Key, math.MaxInt, math.MaxInt), item(old.Key, math.MinInt, math.MinInt), item(old.Key, 0, math.MinInt),
		} {
			h := filled(t, l...)
			if was, e := h.Push(x); !was || e != api.OK {
				t.Errorf("Push(%+v) again: %t %d", x, was, e)
			}
			want := lastOfEach(append(slices.Clone(l), x))
			holds(t, "behind "+x.Key, h, want)
			sameItems(t, "Pop", emptied(t, h), sortByWords(want))
		}
	}
}

// 5.1: a key is told apart from one that it is a beginning of, and from one of other letters.
func TestKeysAreWhole(t *testing.T) {
	h := heap.New()
	var l []api.Item
	for i, key := range keys() {
		x := item(key, i%3, i%2)
		if was, e := h.Push(x); was || e != api.OK {
			t.Errorf("Push(%+v): %t %d", x, was, e)
		}
		l = append(l, x)
		holds(t, "with "+key, h, l)
	}
	for len(l) > 0 {
		x := l[0]
		if got, e := h.Drop(x.Key); got != x || e != api.OK {
			t.Errorf("Drop(%q): %+v %d", x.Key, got, e)
		}
		l = l[1:]
		holds(t, "without "+x.Key, h, l)
	}
}

// 5.1: whichever is dropped, the first, the last or one between, the others stay in order.
func TestDropOfEach(t *testing.T) {
	r := rand.New(rand.NewSource(51))
	for n := 1; n <= 12; n++ {
		var l []api.Item
		for _, i := range r.Perm(n) {
			l = append(l, item(keys()[i], r.Intn(4), r.Intn(4)))
		}
		for i, x := range sortByWords(l) {
			h := filled(t, l...)
			if got, e := h.Drop(x.Key); got != x || e != api.OK {
				t.Fatalf("Drop of place %d of %d: %+v %d, want %+v", i, n, got, e, x)
			}
			if got, e := h.Drop(x.Key); got != (api.Item{}) || e != api.ErrNone {
				t.Fatalf("Drop again: %+v %d", got, e)
			}
			rest := slices.Delete(sortByWords(l), i, i+1)
			holds(t, "behind Drop", h, rest)
			sameItems(t, "Pop", emptied(t, h), rest)
		}
	}
}

// 5.1: a heap that was emptied holds what comes then, and nothing of what was.
func TestEmptiedAndFilledAgain(t *testing.T) {
	h := filled(t, item("a", 1, 5), item("b", 2, 9), item("z", 1, 4))
	emptied(t, h)
	for _, key := range []string{"a", "b", "z"} {
		if x, e := h.Get(key); x != (api.Item{}) || e != api.ErrNone {
			t.Errorf("Get(%q) behind all: %+v %d", key, x, e)
		}
	}
	l := []api.Item{item("z", 0, 0), item("a", 9, 9), item("B", 9, 8)}
	for _, x := range l {
		if was, e := h.Push(x); was || e != api.OK {
			t.Errorf("Push(%+v) anew: %t %d", x, was, e)
		}
	}
	holds(t, "filled again", h, l)
	sameItems(t, "Pop", emptied(t, h), []api.Item{item("B", 9, 8), item("a", 9, 9), item("z", 0, 0)})
}

// 5.1: a clone and its origin go on without each other, whichever is changed, and by whichever call.
func TestCloneIsItsOwn(t *testing.T) {
	l := []api.Item{item("a", 1, 5), item("b", 2, 9), item("z", 1, 4), item("aa", 0, 0)}
	changes := map[string]func(h *heap.Heap){
		"Pop":             func(h *heap.Heap) { h.Pop() },
		"Drop":            func(h *heap.Heap) { h.Drop("z") },
		"Drop of last":    func(h *heap.Heap) { h.Drop("aa") },
		"Push of new":     func(h *heap.Heap) { h.Push(item("Z", 9, 9)) },
		"Push of a last":  func(h *heap.Heap) { h.Push(item("Z", -9, 9)) },
		"Push that moves": func(h *heap.Heap) { h.Push(item("aa", 9, 9)) },
		"Push in place":   func(h *heap.Heap) { h.Push(item("b", 3, 3)) },
		"all out":         func(h *heap.Heap) { emptied(t, h) },
		"Drop and Push":   func(h *heap.Heap) { h.Drop("b"); h.Push(item("b", -3, 3)) },
	}
	for what, change := range changes {
		origin := filled(t, append(slices.Clone(l), item("9", 0, 0))...)
		origin.Drop("9") // its list has room behind its end
		clone := origin.Clone()
		holds(t, what+": clone", clone, l)
		change(clone)
		holds(t, what+": origin of a changed clone", origin, l)
		clone = origin.Clone()
		second := clone.Clone()
		change(origin)
		holds(t, what+": clone of a changed origin", clone, l)
		holds(t, what+": clone of a clone", second, l)
		sameItems(t, what+": Pop of the clone", emptied(t, clone), sortByWords(l))
	}
	origin := filled(t, l...)
	one, other := origin.Clone(), origin.Clone()
	one.Push(item("Z", 5, 5))
	other.Push(item("B", 6, 6))
	holds(t, "one clone", one, append(slices.Clone(l), item("Z", 5, 5)))
	holds(t, "the other clone", other, append(slices.Clone(l), item("B", 6, 6)))
	holds(t, "origin of both", origin, l)
}

// 5.1: what All handed back is the caller's own.
func TestAllIsTheCallers(t *testing.T) {
	l := []api.Item{item("a", 1, 5), item("b", 2, 9), item("z", 1, 4)}
	h := filled(t, l...)
	got := h.All()
	for i := range got {
		got[i] = item("x", -i, i)
	}
	_ = append(got, item("y", 1, 1))
	holds(t, "behind a changed All", h, l)
	sameItems(t, "Pop", emptied(t, h), sortByWords(l))
	kept := []api.Item{item("b", 1, 0), item("a", 0, 0)}
	h = filled(t, kept...)
	got = h.All()
	h.Push(item("b", -1, 0))
	emptied(t, h)
	sameItems(t, "All behind a changed heap", got, kept)
}

// 5.1, P2: Push without a key is refused, and changes nothing.
func TestPushWithoutAKey(t *testing.T) {
	l := []api.Item{item("a", 1, 5), item("b", 2, 9)}
	h := filled(t, l...)
	for _, x := range []api.Item{{}, item("", 9, 0), item("", math.MinInt, math.MaxInt)} {
		if was, e := h.Push(x); was || e != api.ErrArg {
			t.Errorf("Push(%+v): %t %d", x, was, e)
		}
		holds(t, "behind it", h, l)
	}
}

// 5.1, P2: Get and Drop of a key that is not there, an empty one among them, are refused, and change nothing.
func TestKeysThatAreNotThere(t *testing.T) {
	l := []api.Item{item("a", 1, 5), item("ab", 2, 9)}
	h := filled(t, l...)
	for _, key := range []string{"", "A", "b", "aa", "abc", "a\x00", " a", "ab "} {
		if x, e := h.Get(key); x != (api.Item{}) || e != api.ErrNone {
			t.Errorf("Get(%q): %+v %d", key, x, e)
		}
		if x, e := h.Drop(key); x != (api.Item{}) || e != api.ErrNone {
			t.Errorf("Drop(%q): %+v %d", key, x, e)
		}
		holds(t, "behind it", h, l)
	}
}

// 5.1, P1: calls of a heap that no call made answer ErrNil and zero values, and do nothing.
func TestHeapThatNoCallMade(t *testing.T) {
	for what, h := range map[string]*heap.Heap{"nil": nil, "plain": {}} {
		for range 2 { // the second time, too: nothing was done
			for _, x := range []api.Item{item("a", 1, 5), {}} {
				if was, e := h.Push(x); was || e != api.ErrNil {
					t.Errorf("%s: Push(%+v): %t %d", what, x, was, e)
				}
			}
			if x, e := h.Pop(); x != (api.Item{}) || e != api.ErrNil {
				t.Errorf("%s: Pop: %+v %d", what, x, e)
			}
			if x, e := h.Peek(); x != (api.Item{}) || e != api.ErrNil {
				t.Errorf("%s: Peek: %+v %d", what, x, e)
			}
			for _, key := range []string{"a", ""} {
				if x, e := h.Get(key); x != (api.Item{}) || e != api.ErrNil {
					t.Errorf("%s: Get(%q): %+v %d", what, key, x, e)
				}
				if x, e := h.Drop(key); x != (api.Item{}) || e != api.ErrNil {
					t.Errorf("%s: Drop(%q): %+v %d", what, key, x, e)
				}
			}
			if n, l, c := h.Len(), h.All(), h.Clone(); n != 0 || len(l) != 0 || c != nil {
				t.Errorf("%s: Len %d, All %+v, Clone %v", what, n, l, c)
			}
		}
	}
}

// P1: a heap has the chapter's calls and no others, by which its order could be broken.
func TestHeapHasNoOtherCalls(t *testing.T) {
	want := []string{"All", "Clone", "Drop", "Get", "Len", "Peek", "Pop", "Push"}
	var got []string
	for m := range reflect.TypeFor[*heap.Heap]().Methods() {
		got = append(got, m.Name)
	}
	slices.Sort(got)
	if !slices.Equal(got, want) {
		t.Errorf("calls: %v, want %v", got, want)
	}
}

// 5.3: what is pushed comes out as Sort tells it, the last one of each key alone.
func TestAHeapSorts(t *testing.T) {
	r := rand.New(rand.NewSource(53))
	for n := range 200 {
		l := randomItems(r, n%40)
		h := filled(t, l...)
		last := lastOfEach(l)
		sameItems(t, "All", h.All(), heap.Sort(last))
		sameItems(t, "Pop", emptied(t, h), heap.Sort(last))
	}
	var l []api.Item
	for i := range 3000 {
		l = append(l, item("k"+strconv.Itoa(i), r.Intn(20)-10, r.Intn(20)-10))
	}
	for i := range 1000 {
		l = append(l, item("k"+strconv.Itoa(3*i), r.Intn(20)-10, r.Intn(20)-10))
	}
	sameItems(t, "Pop of many", emptied(t, filled(t, l...)), heap.Sort(lastOfEach(l)))
}

// 5.4: what is popped is ahead of all that stays, and was among what was there.
func TestPoppedIsAheadOfAll(t *testing.T) {
	r := rand.New(rand.NewSource(54))
	for n := range 100 {
		h := filled(t, randomItems(r, n)...)
		for h.Len() > 0 {
			peeked, _ := h.Peek()
			was := h.All()
			x, e := h.Pop()
			if e != api.OK || x != peeked || !slices.Contains(was, x) || h.Len() != len(was)-1 {
				t.Fatalf("Pop: %+v %d, Peek was %+v, of %+v", x, e, peeked, was)
			}
			for _, y := range h.All() {
				if !heap.Ahead(x, y) {
					t.Fatalf("%+v was popped, and is not ahead of %+v", x, y)
				}
			}
		}
	}
}

// 5.1, 5.3, 5.4, P2: a heap and a plain list go through the same calls, drawn at random, and tell the same.
func TestRandomCalls(t *testing.T) {
	for seed := range int64(60) {
		r := rand.New(rand.NewSource(seed))
		h := heap.New()
		var l []api.Item
		for range 150 {
			l = randomCall(t, r, h, l)
			holds(t, "random", h, l)
			if r.Intn(20) == 0 {
				h = h.Clone()
			}
		}
		sameItems(t, "Pop", emptied(t, h), sortByWords(l))
	}
}

// randomCall does one call to h, and the same to l by the chapter's words.
func randomCall(t *testing.T, r *rand.Rand, h *heap.Heap, l []api.Item) []api.Item {
	t.Helper()
	x := randomItem(r)
	at := slices.IndexFunc(l, func(y api.Item) bool { return y.Key == x.Key })
	switch r.Intn(8) {
	case 0:
		got, e := h.Pop()
		if len(l) == 0 {
			if got != (api.Item{}) || e != api.ErrNone {
				t.Fatalf("Pop: %+v %d", got, e)
			}
			return l
		}
		first := sortByWords(l)[0]
		if got != first || e != api.OK {
			t.Fatalf("Pop: %+v %d, want %+v", got, e, first)
		}
		return slices.DeleteFunc(l, func(y api.Item) bool { return y == first })
	case 1, 2:
		got, e := h.Drop(x.Key)
		if at < 0 {
			if got != (api.Item{}) || e != api.ErrNone {
				t.Fatalf("Drop(%q): %+v %d", x.Key, got, e)
			}
			return l
		}
		if got != l[at] || e != api.OK {
			t.Fatalf("Drop(%q): %+v %d, want %+v", x.Key, got, e, l[at])
		}
		return slices.Delete(l, at, at+1)
	case 3:
		x.Key = ""
		if was, e := h.Push(x); was || e != api.ErrArg {
			t.Fatalf("Push(%+v): %t %d", x, was, e)
		}
		return l
	}
	if was, e := h.Push(x); was != (at >= 0) || e != api.OK {
		t.Fatalf("Push(%+v): %t %d, want %t", x, was, e, at >= 0)
	}
	if at >= 0 {
		l[at] = x
		return l
	}
	return append(l, x)
}
