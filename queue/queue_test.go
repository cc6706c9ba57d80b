package queue_test

import (
	"fmt"
	"math"
	"testing"

	"stevedore/api"
	"stevedore/queue"
)

// The chapter's example.
func TestExample(t *testing.T) {
	q := queue.New()
	add(t, q, "a", 1)
	add(t, q, "b", 5)
	add(t, q, "c", 1)
	popIs(t, "b is first", q, entry("b", 5, 1, 1, 0))
	popIs(t, "then a", q, entry("a", 1, 0, 1, 0))
	popIs(t, "then c", q, entry("c", 1, 2, 1, 0))
	back(t, q, entry("a", 1, 0, 1, 0), 3, true)
	placeIs(t, "a", q, queue.Backs, entry("a", 1, 0, 1, 4))
	tickIs(t, "too early", q, 3, 0)
	tickIs(t, "just now", q, 4, 1)
	placeIs(t, "a", q, queue.Ready, entry("a", 1, 0, 1, 4))
}

// 14.1: the places' numbers, and the cap.
func TestNumbers(t *testing.T) {
	same(t, "places and cap", []int{queue.Ready, queue.Backs, queue.Pooled, queue.Cap}, []int{1, 2, 3, 16})
}

// 14.1: a new queue has no entries, nobody hopes, and the first one that is added has the number 0.
func TestNew(t *testing.T) {
	q := queue.New()
	if q == nil {
		t.Fatal("New: nil")
	}
	same(t, "a new queue", look(q), lookAtModel(newModel()))
	fails(t, "Pop", q, func() api.Errno {
		w, e := q.Pop()
		same(t, "Pop", w, api.Waiting{})
		return e
	}, api.ErrNone)
	moveIs(t, "a new queue", q, 0, 0)
	tickIs(t, "a new queue", q, 0, 0)
	for _, name := range someNames() {
		fails(t, "Drop", q, func() api.Errno { return q.Drop(name) }, api.ErrNone)
	}

	a, b := queue.New(), queue.New()
	was := look(b)
	add(t, a, "a", 1)
	hope(t, a, "a", "n")
	same(t, "another new queue", look(b), was)
}

// 14.1: what is added is ready, with no tries and no Till, numbered as it came; priorities may be any numbers.
func TestAdd(t *testing.T) {
	q := queue.New()
	for k, c := range []struct {
		name     string
		priority int
	}{
		{"a", 0}, {"b", 5}, {"c", -5}, {"d", math.MaxInt}, {"e", math.MinInt}, {"f", api.MaxPriority}, {"aa", api.MaxPriority + 1}, {"Z", 5}, {"\xff", -1}, {"a\x00", 1},
	} {
		add(t, q, c.name, c.priority)
		placeIs(t, "added", q, queue.Ready, entry(c.name, c.priority, k, 0, 0))
		same(t, "how many are ready", len(q.All(queue.Ready)), k+1)
	}
	same(t, "others", len(q.All(queue.Backs))+len(q.All(queue.Pooled)), 0)
}

// 14.1: names of any length.
func TestAddOfLongName(t *testing.T) {
	long := string(make([]byte, 70000))
	q := queue.New()
	add(t, q, long, 1)
	add(t, q, long+"x", 1)
	same(t, "again", int(q.Add(long, 1)), int(api.ErrSame))
	popIs(t, "long", q, entry(long, 1, 0, 1, 0))
}

// 14.1: an empty name is refused, at any priority; so is a name that is there, in each of the places.
func TestAddRefused(t *testing.T) {
	for _, q := range []*queue.Queue{queue.New(), mixed(t)} {
		for _, priority := range []int{0, 1, -1, math.MaxInt, math.MinInt} {
			fails(t, "Add of an empty name", q, func() api.Errno { return q.Add("", priority) }, api.ErrArg)
		}
	}
	q := mixed(t)
	for _, place := range allPlaces() {
		for _, w := range q.All(place) {
			for _, priority := range []int{w.Priority, w.Priority + 1, -7, 99} {
				fails(t, fmt.Sprint("Add of what is in place ", place), q, func() api.Errno { return q.Add(w.Name, priority) }, api.ErrSame)
			}
		}
	}
}

// 14.1: what was popped or dropped can be added anew: with a new number, without its tries.
func TestAddAgain(t *testing.T) {
	q := queue.New()
	add(t, q, "a", 3)
	add(t, q, "b", 2)
	popIs(t, "a", q, entry("a", 3, 0, 1, 0))
	add(t, q, "a", 2)
	placeIs(t, "popped and added", q, queue.Ready, entry("a", 2, 2, 0, 0))
	popIs(t, "b was there first", q, entry("b", 2, 1, 1, 0))
	drop(t, q, "a")
	add(t, q, "a", 7)
	placeIs(t, "dropped and added", q, queue.Ready, entry("a", 7, 3, 0, 0))

	q = mixed(t)
	for k, name := range []string{"a", "e", "Z"} { // one of each place
		drop(t, q, name)
		add(t, q, name, -k)
		placeIs(t, "dropped from any place and added", q, queue.Ready, entry(name, -k, 9+k, 0, 0))
	}
}

// 14.1: Seq counts what was added: neither what was refused, nor what came back.
func TestSeq(t *testing.T) {
	q := queue.New()
	add(t, q, "a", 1)
	q.Add("a", 1)
	q.Add("", 1)
	w, _ := q.Pop()
	back(t, q, w, 0, true)
	back(t, q, entry("x", 1, 77, 1, 0), 0, false)
	drop(t, q, "x")
	q.Tick(5)
	q.Move(5)
	add(t, q, "b", 1)
	placeIs(t, "the second one", q, queue.Ready, entry("b", 1, 1, 0, 0))
	popIs(t, "the first one", q, entry("a", 1, 0, 2, 1))
}

// 14.1: which one is first: by priority, then by Seq, then by name.
func TestPopFirst(t *testing.T) {
	q := queue.New()
	for k, priority := range []int{0, -1, 3, math.MinInt, 3, math.MaxInt, -1, 0, math.MinInt + 1, 3} {
		add(t, q, fmt.Sprint("p", 9-k), priority)
	}
	l := popAll(q)
	same(t, "popped", names(l), []string{"p4", "p7", "p5", "p0", "p9", "p2", "p8", "p3", "p1", "p6"})

	for _, name := range []string{"d", "b", "c", "a"} { // whatever the order in which they come back
		back(t, q, entry(name, 1, 5, 0, 0), 0, true)
	}
	back(t, q, entry("e", 1, 4, 0, 0), 0, true)
	back(t, q, entry("f", 1, math.MinInt, 0, 0), 0, true)
	back(t, q, entry("Z", 1, math.MaxInt, 0, 0), 0, true)
	back(t, q, entry("aa", 2, math.MaxInt, 0, 0), 0, true)
	tickIs(t, "all", q, 0, 8)
	want := []string{"aa", "f", "e", "a", "b", "c", "d", "Z"}
	same(t, "as they would be popped", names(q.All(queue.Ready)), want)
	same(t, "of one Seq by name", names(popAll(q)), want)
}

// 14.1: what is popped is in the queue no more, and all else stays.
func TestPopTakesOut(t *testing.T) {
	q := mixed(t)
	was := look(q)
	for k, name := range []string{"a", "b", "c"} {
		w, e := q.Pop()
		same(t, "Pop", []any{w.Name, w.Tries, int(e)}, []any{name, 1, 0})
		isNowhere(t, name, q, name)
		same(t, "how many are ready", len(q.All(queue.Ready)), 2-k)
	}
	now := look(q)
	same(t, "what backs off", now.all[queue.Backs], was.all[queue.Backs])
	same(t, "what is pooled", now.all[queue.Pooled], was.all[queue.Pooled])
	same(t, "the next number", now.next, was.next)
}

// 14.1: Pop of a queue that is empty, or whose entries all back off, or are pooled, or both.
func TestPopOfNothing(t *testing.T) {
	none := func(what string, q *queue.Queue) {
		t.Helper()
		fails(t, what, q, func() api.Errno {
			w, e := q.Pop()
			same(t, what, w, api.Waiting{})
			return e
		}, api.ErrNone)
	}
	none("a new one", queue.New())
	q := queue.New()
	add(t, q, "a", 1)
	add(t, q, "b", 1)
	a, _ := q.Pop()
	b, _ := q.Pop()
	none("all popped", q)
	back(t, q, a, 0, true)
	none("all back off", q)
	back(t, q, b, 0, false)
	none("some back off, some are pooled", q)
	drop(t, q, "a")
	none("all are pooled", q)
	moveIs(t, "b", q, 0, 1)
	none("it backs off", q)
	drop(t, q, "b")
	none("all dropped", q)
	add(t, q, "c", 1)
	drop(t, q, "c")
	none("the one that was ready is dropped", q)
}

// 14.1: Tries are one more behind each Pop, below 1 << 30; from there on they stay.
func TestPopCountsTries(t *testing.T) {
	for _, c := range []struct{ tries, want int }{
		{0, 1}, {1, 2}, {4, 5}, {5, 6}, {99, 100}, {-1, 0}, {-7, -6}, {math.MinInt, math.MinInt + 1},
		{mostTries - 2, mostTries - 1}, {mostTries - 1, mostTries}, {mostTries, mostTries}, {mostTries + 1, mostTries + 1}, {math.MaxInt, math.MaxInt},
	} {
		for _, room := range []bool{true, false} {
			q := queue.New()
			back(t, q, entry("a", 1, 2, c.tries, 0), 0, room)
			q.Move(0)
			q.Tick(16)
			till := delay(c.tries)
			placeIs(t, "where it waits the tries are as they were", q, queue.Ready, entry("a", 1, 2, c.tries, till))
			popIs(t, fmt.Sprint("behind ", c.tries, " tries"), q, entry("a", 1, 2, c.want, till))
		}
	}
}

// 14.1: an entry is taken out again and again: its tries count up, all else stays.
func TestPopAgainAndAgain(t *testing.T) {
	q := queue.New()
	add(t, q, "z", -3)
	add(t, q, "a", -3)
	w, now := api.Waiting{}, 0
	for n := range 9 {
		till := 0
		if n > 0 {
			till = now
		}
		w, _ = q.Pop()
		same(t, fmt.Sprint("popped ", n), w, entry("z", -3, 0, n+1, till))
		back(t, q, w, now, n%2 == 0)
		now += delay(n + 1)
		q.Move(now)
		q.Tick(now)
	}
}

// 14.1, 14.7: how long one backs off.
func TestDelay(t *testing.T) {
	for _, c := range []struct{ tries, want int }{
		{math.MinInt, 0}, {-mostTries, 0}, {-2, 0}, {-1, 0}, {0, 0}, {1, 1}, {2, 2}, {3, 4}, {4, 8}, {5, 16}, {6, 16}, {7, 16},
		{31, 16}, {32, 16}, {33, 16}, {63, 16}, {64, 16}, {65, 16}, {66, 16}, {99, 16}, {mostTries, 16}, {1 << 31, 16}, {1 << 32, 16}, {1 << 40, 16}, {math.MaxInt - 1, 16}, {math.MaxInt, 16},
	} {
		same(t, fmt.Sprint("Delay(", c.tries, ")"), queue.Delay(c.tries), c.want)
	}
}

// 14.7: what was tried more often never backs off shorter; and twice as long, up to the cap.
func TestDelayNeverFalls(t *testing.T) {
	for tries := -300; tries < 300; tries++ {
		a, b := queue.Delay(tries), queue.Delay(tries+1)
		if a > b || a < 0 || b > queue.Cap {
			t.Errorf("Delay(%d): %d, of one more: %d", tries, a, b)
		}
		if tries >= 1 && b != min(2*a, queue.Cap) {
			t.Errorf("Delay(%d): %d, of one more: %d", tries, a, b)
		}
	}
	q := queue.New()
	for k, tries := range []int{-1, 0, 1, 2, 3, 4, 5, 6, mostTries, math.MaxInt} {
		back(t, q, entry(fmt.Sprint("p", k), 1, k, tries, 0), 100, k%2 == 0)
		_, w, _ := q.Place(fmt.Sprint("p", k))
		if k > 0 {
			_, ahead, _ := q.Place(fmt.Sprint("p", k-1))
			same(t, "Till of one that was tried more often", w.Till >= ahead.Till, true)
		}
	}
}
