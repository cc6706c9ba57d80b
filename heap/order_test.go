package heap_test

import (
	"math"
	"math/rand"
	"slices"
	"testing"

	"stevedore/api"
	"stevedore/heap"
)

// 5.2: Ahead, by pairs that differ in one thing or several.
func TestAheadOfPairs(t *testing.T) {
	for _, c := range []struct {
		what string
		a, b api.Item
		want bool
	}{
		{"a greater rank", item("b", 2, 9), item("a", 1, 1), true},
		{"a lesser rank", item("a", 1, 1), item("b", 2, 9), false},
		{"a rank below 0", item("a", -1, 0), item("a", 0, 0), false},
		{"one rank, a lesser number", item("c", 1, 4), item("a", 1, 5), true},
		{"one rank, a greater number", item("a", 1, 5), item("c", 1, 4), false},
		{"a number below 0", item("b", 1, -1), item("a", 1, 0), true},
		{"one rank and number, a lesser key", item("a", 1, 5), item("b", 1, 5), true},
		{"one rank and number, a greater key", item("b", 1, 5), item("a", 1, 5), false},
		{"a beginning of the other key", item("a", 1, 5), item("aa", 1, 5), true},
		{"a key that goes on", item("aa", 1, 5), item("a", 1, 5), false},
		{"a zero byte behind", item("a\x00", 1, 5), item("a", 1, 5), false},
		{"an empty key", item("", 1, 5), item("\x00", 1, 5), true},
		{"great letters lie ahead of small ones", item("Z", 1, 5), item("a", 1, 5), true},
		{"digits as bytes, not as numbers", item("10", 1, 5), item("9", 1, 5), true},
		{"bytes without signs", item("z", 1, 5), item("\xff", 1, 5), true},
		{"the same", item("a", 1, 5), item("a", 1, 5), false},
		{"both empty", api.Item{}, api.Item{}, false},
		{"the greatest rank", item("a", math.MaxInt, 0), item("a", math.MinInt, 0), true},
		{"the least rank", item("a", math.MinInt, 0), item("a", math.MaxInt, 0), false},
		{"the least number", item("a", 0, math.MinInt), item("a", 0, math.MaxInt), true},
		{"the greatest number", item("a", 0, math.MaxInt), item("a", 0, math.MinInt), false},
		{"ranks just apart at the end", item("b", math.MaxInt, 9), item("a", math.MaxInt-1, 1), true},
		{"numbers just apart at the end", item("b", 0, math.MinInt), item("a", 0, math.MinInt+1), true},
	} {
		if got := heap.Ahead(c.a, c.b); got != c.want {
			t.Errorf("%s: Ahead(%+v, %+v): %t", c.what, c.a, c.b, got)
		}
	}
}

// some are items of all ends and keys that differ by one thing or several.
func some() []api.Item {
	var l []api.Item
	for _, key := range append(keys(), "") {
		l = append(l, item(key, 0, 0), item(key, 1, 0), item(key, 0, 1), item(key, math.MinInt, math.MaxInt))
	}
	for _, rank := range ends() {
		for _, seq := range ends() {
			l = append(l, item("a", rank, seq))
		}
	}
	return l
}

// 5.2: Ahead says of any two what the chapter's words say.
func TestAheadByWords(t *testing.T) {
	for _, a := range some() {
		for _, b := range some() {
			if got := heap.Ahead(a, b); got != aheadByWords(a, b) {
				t.Fatalf("Ahead(%+v, %+v): %t", a, b, got)
			}
		}
	}
}

// 5.5: of two that are not the same just one comes ahead; of the same ones none.
func TestAheadOfJustOne(t *testing.T) {
	for _, a := range some() {
		for _, b := range some() {
			one, other := heap.Ahead(a, b), heap.Ahead(b, a)
			if a == b && (one || other) {
				t.Fatalf("%+v is ahead of itself", a)
			}
			if a != b && one == other {
				t.Fatalf("%+v and %+v: each ahead: %t", a, b, one)
			}
		}
	}
}

// 5.5: what is ahead of one that is ahead of a third is ahead of the third.
func TestAheadGoesOn(t *testing.T) {
	l := some()
	for _, a := range l {
		for _, b := range l {
			if !heap.Ahead(a, b) {
				continue
			}
			for _, c := range l {
				if heap.Ahead(b, c) && !heap.Ahead(a, c) {
					t.Fatalf("%+v ahead of %+v ahead of %+v: not of the last one", a, b, c)
				}
			}
		}
	}
}

// 5.2: Sort of lists that are written out.
func TestSortOfLists(t *testing.T) {
	a, b, c := item("a", 1, 5), item("b", 2, 9), item("c", 1, 4)
	for _, k := range []struct {
		what    string
		l, want []api.Item
	}{
		{"none", nil, nil},
		{"none, empty", []api.Item{}, nil},
		{"one", []api.Item{a}, []api.Item{a}},
		{"one without a key", []api.Item{{}}, []api.Item{{}}},
		{"two", []api.Item{a, b}, []api.Item{b, a}},
		{"the example's", []api.Item{a, b, c}, []api.Item{b, c, a}},
		{"sorted ones", []api.Item{b, c, a}, []api.Item{b, c, a}},
		{"the other way about", []api.Item{a, c, b}, []api.Item{b, c, a}},
		{"a key that stands twice", []api.Item{a, item("a", 2, 0), b}, []api.Item{item("a", 2, 0), b, a}},
		{"equal ones", []api.Item{a, a, b, a}, []api.Item{b, a, a, a}},
		{"equal ones alone", []api.Item{c, c, c}, []api.Item{c, c, c}},
		{"empty keys", []api.Item{a, {Rank: 1, Seq: 5}, {Rank: 9}, {}}, []api.Item{{Rank: 9}, {Rank: 1, Seq: 5}, a, {}}},
		{"keys that are beginnings", []api.Item{item("ab", 0, 0), item("a", 0, 0), item("", 0, 0), item("aa", 0, 0)},
			[]api.Item{item("", 0, 0), item("a", 0, 0), item("aa", 0, 0), item("ab", 0, 0)}},
		{"ends", []api.Item{item("a", math.MinInt, 0), item("b", 0, math.MaxInt), item("c", 0, math.MinInt), item("d", math.MaxInt, 0)},
			[]api.Item{item("d", math.MaxInt, 0), item("c", 0, math.MinInt), item("b", 0, math.MaxInt), item("a", math.MinInt, 0)}},
	} {
		sameItems(t, k.what, heap.Sort(k.l), k.want)
	}
}

// 5.2: Sort of any list is what the chapter's words say, with all members, however many.
func TestSortByWords(t *testing.T) {
	r := rand.New(rand.NewSource(52))
	for n := range 120 {
		l := randomItems(r, n)
		sameItems(t, "Sort", heap.Sort(l), sortByWords(l))
	}
	l := some()
	r.Shuffle(len(l), func(i, j int) { l[i], l[j] = l[j], l[i] })
	sameItems(t, "Sort of all ends", heap.Sort(l), sortByWords(l))
}

// 5.2: what Sort was handed stays, and what it answers is the caller's own.
func TestSortLeavesItsList(t *testing.T) {
	r := rand.New(rand.NewSource(53))
	for _, n := range []int{1, 2, 3, 12, 13, 64, 300} {
		room := randomItems(r, n+4)
		was := slices.Clone(room)
		got := heap.Sort(room[:n])
		sameItems(t, "the list handed in", room, was)
		want := slices.Clone(got)
		clear(room)
		sameItems(t, "the answer, when the list is changed", got, want)
		copy(room, was)
		got = append(got, item("x", 1, 1))
		clear(got)
		sameItems(t, "the list, when the answer is changed", room, was)
	}
	sorted := []api.Item{item("b", 1, 0), item("a", 0, 0)}
	got := heap.Sort(sorted)
	got[0] = api.Item{}
	if sorted[0] != item("b", 1, 0) {
		t.Error("Sort of a sorted list handed that list out")
	}
}
