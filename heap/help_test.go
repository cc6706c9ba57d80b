package heap_test

import (
	"math"
	"math/rand"
	"reflect"
	"slices"
	"testing"

	"stevedore/api"
	"stevedore/heap"
)

func item(key string, rank, seq int) api.Item { return api.Item{Key: key, Rank: rank, Seq: seq} }

// ends are numbers at each end of what an int may be, and about 0: differences of some wrap.
func ends() []int {
	return []int{math.MinInt, math.MinInt + 1, -1 << 32, -1, 0, 1, 1 << 32, math.MaxInt - 1, math.MaxInt}
}

// keys are ones that are beginnings of others, and bytes that letters' own orders would place elsewhere.
func keys() []string {
	return []string{"a", "aa", "ab", "a\x00", "a ", "B", "b", "Z", "é", "z", "\x00", "\xff", "10", "9", " "}
}

// aheadByWords is the chapter's sentence: a greater rank; of one rank, a lesser number; of one number, too, a lesser key.
func aheadByWords(a, b api.Item) bool {
	switch {
	case a.Rank > b.Rank:
		return true
	case a.Rank == b.Rank && a.Seq < b.Seq:
		return true
	case a.Rank == b.Rank && a.Seq == b.Seq:
		return lessByBytes([]byte(a.Key), []byte(b.Key))
	}
	return false
}

func lessByBytes(a, b []byte) bool {
	for i := range min(len(a), len(b)) {
		if a[i] != b[i] {
			return a[i] < b[i]
		}
	}
	return len(a) < len(b)
}

// sortByWords takes the first one that none is ahead of, till there is none.
func sortByWords(l []api.Item) []api.Item {
	rest := slices.Clone(l)
	var out []api.Item
	for len(rest) > 0 {
		first := 0
		for i := range rest {
			if aheadByWords(rest[i], rest[first]) {
				first = i
			}
		}
		out = append(out, rest[first])
		rest = slices.Delete(rest, first, first+1)
	}
	return out
}

// lastOfEach is what stays of a list, if of each key the last one alone counts.
func lastOfEach(l []api.Item) []api.Item {
	var out []api.Item
	for i, x := range l {
		later := slices.ContainsFunc(l[i+1:], func(y api.Item) bool { return y.Key == x.Key })
		if !later {
			out = append(out, x)
		}
	}
	return out
}

// randomItem draws of few keys, ranks and numbers, so that many are alike in some of them.
func randomItem(r *rand.Rand) api.Item {
	ks, ns := keys(), ends()
	x := item(ks[r.Intn(len(ks))], r.Intn(3), r.Intn(3))
	if r.Intn(4) == 0 {
		x.Rank = ns[r.Intn(len(ns))]
	}
	if r.Intn(4) == 0 {
		x.Seq = ns[r.Intn(len(ns))]
	}
	return x
}

func randomItems(r *rand.Rand, n int) []api.Item {
	l := make([]api.Item, n)
	for i := range l {
		l[i] = randomItem(r)
	}
	return l
}

// filled is a heap into which all of l were pushed.
func filled(t *testing.T, l ...api.Item) *heap.Heap {
	t.Helper()
	h := heap.New()
	for _, x := range l {
		if _, e := h.Push(x); e != api.OK {
			t.Fatalf("Push(%+v): %d", x, e)
		}
	}
	return h
}

// emptied is all that comes out by Pop, and asks that nothing is left behind.
func emptied(t *testing.T, h *heap.Heap) []api.Item {
	t.Helper()
	var out []api.Item
	for n := h.Len(); n > 0; n-- {
		x, e := h.Pop()
		if e != api.OK {
			t.Fatalf("Pop with %d left: %d", n, e)
		}
		if h.Len() != n-1 {
			t.Fatalf("Len behind a Pop of %d: %d", n, h.Len())
		}
		out = append(out, x)
	}
	if x, e := h.Pop(); x != (api.Item{}) || e != api.ErrNone {
		t.Fatalf("Pop behind all: %+v %d", x, e)
	}
	return out
}

func sameItems(t *testing.T, what string, got, want []api.Item) {
	t.Helper()
	if len(got) == 0 && len(want) == 0 {
		return
	}
	if !reflect.DeepEqual(got, want) {
		t.Fatalf("%s: %+v, want %+v", what, got, want)
	}
}

// holds asks by each call that tells what is there whether h has just want.
func holds(t *testing.T, what string, h *heap.Heap, want []api.Item) {
	t.Helper()
	want = sortByWords(want)
	if h.Len() != len(want) {
		t.Fatalf("%s: Len: %d, want %d", what, h.Len(), len(want))
	}
	sameItems(t, what+": All", h.All(), want)
	first, none := api.Item{}, api.ErrNone
	if len(want) > 0 {
		first, none = want[0], api.OK
	}
	if x, e := h.Peek(); x != first || e != none {
		t.Fatalf("%s: Peek: %+v %d, want %+v %d", what, x, e, first, none)
	}
	for _, key := range append(keys(), "", "none") {
		wantItem, wantErr := api.Item{}, api.ErrNone
		if i := slices.IndexFunc(want, func(x api.Item) bool { return x.Key == key }); i >= 0 {
			wantItem, wantErr = want[i], api.OK
		}
		if x, e := h.Get(key); x != wantItem || e != wantErr {
			t.Fatalf("%s: Get(%q): %+v %d, want %+v %d", what, key, x, e, wantItem, wantErr)
		}
	}
	// Asking has changed nothing.
	if h.Len() != len(want) {
		t.Fatalf("%s: Len behind asking: %d, want %d", what, h.Len(), len(want))
	}
	sameItems(t, what+": All again", h.All(), want)
}
