package queue_test

import (
	"fmt"
	"math"
	"reflect"
	"slices"
	"testing"

	"stevedore/api"
	"stevedore/queue"
)

// same holds two answers against each other (an empty list is as none).
func same(t *testing.T, what string, got, want any) {
	t.Helper()
	if reflect.DeepEqual(got, want) {
		return
	}
	if g, w := fmt.Sprintf("%+v", got), fmt.Sprintf("%+v", want); g != w {
		t.Errorf("%s: %s, want %s", what, g, w)
	}
}

// lastNow is the last moment that calls take.
const lastNow = 1<<40 - 64

// mostTries is the number of tries from which on they are counted no more.
const mostTries = 1 << 30

func allPlaces() []int { return []int{queue.Ready, queue.Backs, queue.Pooled} }

// noPlaces is numbers that are no place, those beside the first and the last one among them.
func noPlaces() []int { return []int{0, 4, 5, -1, -2, -3, math.MinInt, math.MaxInt} }

// noNows is moments that there are not, those beside the first and the last one among them.
func noNows() []int {
	return []int{-1, -2, math.MinInt, lastNow + 1, lastNow + 2, api.MaxTick, api.MaxTick + 1, math.MaxInt - 16, math.MaxInt}
}

// someNames and someNodes are what tests ask for; there is one more of each than tests use.
func someNames() []string {
	return []string{"a", "b", "c", "d", "e", "f", "aa", "Z", "\xff", "a\x00", "nobody", ""}
}

func someNodes() []string { return []string{"n", "m", "nn", "a", "nowhere", ""} }

// entry is one as the calls tell it.
func entry(name string, priority, seq, tries, till int) api.Waiting {
	return api.Waiting{Name: name, Priority: priority, Seq: seq, Tries: tries, Till: till}
}

// spot is all that Place tells.
type spot struct {
	place int
	entry api.Waiting
	e     api.Errno
}

// told is all that calls can tell of a queue.
type told struct {
	all       map[int][]api.Waiting
	placed    map[string]spot
	nominated map[string][]string
	popped    []api.Waiting
	next      int // the Seq of one that would be added now
}

// look is what calls can tell of a queue; what would change it is asked of clones.
func look(q *queue.Queue) told {
	x := told{all: map[int][]api.Waiting{}, placed: map[string]spot{}, nominated: map[string][]string{}}
	for _, place := range append(allPlaces(), noPlaces()...) {
		x.all[place] = q.All(place)
	}
	for _, name := range someNames() {
		place, w, e := q.Place(name)
		x.placed[name] = spot{place, w, e}
	}
	for _, node := range someNodes() {
		x.nominated[node] = q.Nominated(node)
	}
	x.popped = popAll(q.Clone())
	c := q.Clone()
	c.Add("one that nobody asks for", 0)
	_, w, _ := c.Place("one that nobody asks for")
	x.next = w.Seq
	return x
}

// popAll is what comes by Pops, till none does; no test has so many that the bound counts, but a queue that never gets empty is to be told.
func popAll(q *queue.Queue) []api.Waiting {
	var l []api.Waiting
	for range 5000 {
		w, e := q.Pop()
		if e != api.OK {
			break
		}
		l = append(l, w)
	}
	return l
}

func names(l []api.Waiting) []string {
	var out []string
	for _, w := range l {
		out = append(out, w.Name)
	}
	return out
}

func add(t *testing.T, q *queue.Queue, name string, priority int) {
	t.Helper()
	same(t, fmt.Sprintf("Add(%q, %d)", name, priority), int(q.Add(name, priority)), 0)
}

func back(t *testing.T, q *queue.Queue, w api.Waiting, now int, room bool) {
	t.Helper()
	same(t, fmt.Sprintf("Back(%+v, %d, %t)", w, now, room), int(q.Back(w, now, room)), 0)
}

func drop(t *testing.T, q *queue.Queue, name string) {
	t.Helper()
	same(t, fmt.Sprintf("Drop(%q)", name), int(q.Drop(name)), 0)
}

func hope(t *testing.T, q *queue.Queue, name, node string) {
	t.Helper()
	same(t, fmt.Sprintf("Hope(%q, %q)", name, node), int(q.Hope(name, node)), 0)
}

func popIs(t *testing.T, what string, q *queue.Queue, want api.Waiting) {
	t.Helper()
	w, e := q.Pop()
	same(t, what+": Pop", []any{w, int(e)}, []any{want, 0})
}

func moveIs(t *testing.T, what string, q *queue.Queue, now, want int) {
	t.Helper()
	n, e := q.Move(now)
	same(t, fmt.Sprint(what, ": Move(", now, ")"), []int{n, int(e)}, []int{want, 0})
}

func tickIs(t *testing.T, what string, q *queue.Queue, now, want int) {
	t.Helper()
	n, e := q.Tick(now)
	same(t, fmt.Sprint(what, ": Tick(", now, ")"), []int{n, int(e)}, []int{want, 0})
}

// placeIs asks where an entry is, whole, and that it is in no other place.
func placeIs(t *testing.T, what string, q *queue.Queue, place int, want api.Waiting) {
	t.Helper()
	got, w, e := q.Place(want.Name)
	same(t, what+": Place", []any{got, w, int(e)}, []any{place, want, 0})
	for _, p := range allPlaces() {
		at := slices.Index(q.All(p), want) >= 0
		same(t, fmt.Sprint(what, ": among All of ", p), at, p == place)
	}
}

// isNowhere asks that a name is in no place.
func isNowhere(t *testing.T, what string, q *queue.Queue, name string) {
	t.Helper()
	place, w, e := q.Place(name)
	same(t, what+": Place", []any{place, w, int(e)}, []any{0, api.Waiting{}, int(api.ErrNone)})
	for _, p := range allPlaces() {
		same(t, fmt.Sprint(what, ": among All of ", p), slices.Contains(names(q.All(p)), name), false)
	}
}

func nominatedIs(t *testing.T, what string, q *queue.Queue, node string, want ...string) {
	t.Helper()
	same(t, fmt.Sprintf("%s: Nominated(%q)", what, node), q.Nominated(node), want)
}

// fails asks for an error, and that nothing is changed.
func fails(t *testing.T, what string, q *queue.Queue, do func() api.Errno, want api.Errno) {
	t.Helper()
	was := look(q)
	same(t, what, int(do()), int(want))
	same(t, what+": what is told then", look(q), was)
}

// mixed is a queue with three entries in each place, and hopes: a, b, c are ready, d, e, f back off, aa, Z, \xff are pooled.
func mixed(t *testing.T) *queue.Queue {
	t.Helper()
	q := queue.New()
	for k, name := range []string{"d", "e", "f", "aa", "Z", "\xff", "a", "b", "c"} {
		add(t, q, name, 9-k)
	}
	for k := range 6 {
		w, _ := q.Pop()
		w.Tries += k % 3
		back(t, q, w, 10, k < 3)
	}
	hope(t, q, "a", "n")
	hope(t, q, "d", "n")
	hope(t, q, "Z", "m")
	hope(t, q, "nobody", "n")
	for k, want := range [][]string{{"a", "b", "c"}, {"d", "e", "f"}, {"aa", "Z", "\xff"}} {
		same(t, "mixed", names(q.All(k+1)), want)
	}
	return q
}
