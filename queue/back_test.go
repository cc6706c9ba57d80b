package queue_test

import (
	"fmt"
	"math"
	"testing"

	"stevedore/api"
	"stevedore/queue"
)

// 14.2: Back with room and without, at moments from the first to the last: where the entry is, and till when.
func TestBack(t *testing.T) {
	for _, now := range []int{0, 1, 3, 1 << 31, lastNow - 1, lastNow} {
		for _, tries := range []int{math.MinInt, -1, 0, 1, 2, 3, 4, 5, 6, 99, mostTries, math.MaxInt} {
			for _, room := range []bool{true, false} {
				q := queue.New()
				back(t, q, entry("a", 7, 3, tries, 0), now, room)
				place := queue.Pooled
				if room {
					place = queue.Backs
				}
				placeIs(t, fmt.Sprint("tried ", tries, ", at ", now, ", room ", room), q, place, entry("a", 7, 3, tries, now+delay(tries)))
				same(t, "how many", len(q.All(1))+len(q.All(2))+len(q.All(3)), 1)
			}
		}
	}
}

// 14.2: an entry comes back as it is handed in, whatever its numbers are; only its Till is another one.
func TestBackKeepsEntry(t *testing.T) {
	for _, n := range []int{math.MinInt, -5, 0, 1, 1 << 40, math.MaxInt} {
		for _, room := range []bool{true, false} {
			q := queue.New()
			w := entry("a", n, n, n, n)
			back(t, q, w, 20, room)
			place := queue.Backs
			if !room {
				place = queue.Pooled
			}
			placeIs(t, "back", q, place, entry("a", n, n, n, 20+delay(n)))
			q.Move(36)
			q.Tick(36)
			placeIs(t, "ready", q, queue.Ready, entry("a", n, n, n, 20+delay(n)))
			same(t, "w", w, entry("a", n, n, n, n))
		}
	}
}

// 14.2: a name that the queue never had comes back, too, and one that was dropped.
func TestBackOfOthers(t *testing.T) {
	q := mixed(t)
	back(t, q, entry("nobody", 1, 2, 3, 4), 5, true)
	placeIs(t, "never there", q, queue.Backs, entry("nobody", 1, 2, 3, 9))
	drop(t, q, "a")
	back(t, q, entry("a", 1, 2, 0, 4), 5, false)
	placeIs(t, "dropped", q, queue.Pooled, entry("a", 1, 2, 0, 5))
}

// 14.2: an empty name, a now that there is not, a name that is there in each place; ErrArg ahead of ErrSame.
func TestBackRefused(t *testing.T) {
	q := mixed(t)
	for _, room := range []bool{true, false} {
		try := func(what string, w api.Waiting, now int, want api.Errno) {
			t.Helper()
			fails(t, fmt.Sprintf("%s: Back(%+v, %d, %t)", what, w, now, room), q, func() api.Errno { return q.Back(w, now, room) }, want)
		}
		for _, now := range append(noNows(), 0, 5, lastNow) {
			try("an empty name", api.Waiting{}, now, api.ErrArg)
			try("an empty name", entry("", 1, 2, 3, 4), now, api.ErrArg)
		}
		for _, now := range noNows() {
			for _, tries := range []int{0, 1, math.MaxInt} {
				try("no such now", entry("nobody", 1, 2, tries, 0), now, api.ErrArg)
			}
		}
		for _, place := range allPlaces() {
			for _, w := range q.All(place) {
				for _, now := range []int{0, 5, lastNow} {
					try("it is there", w, now, api.ErrSame)
					try("the name is there", entry(w.Name, 55, 66, 77, 88), now, api.ErrSame)
				}
				for _, now := range noNows() {
					try("it is there, and no such now", w, now, api.ErrArg)
				}
			}
		}
	}
}

// 14.2: Back twice: the second one is refused.
func TestBackTwice(t *testing.T) {
	q := queue.New()
	add(t, q, "a", 1)
	w, _ := q.Pop()
	for _, room := range []bool{true, false} {
		back(t, q, w, 3, room)
		for _, again := range []bool{true, false} {
			fails(t, "Back again", q, func() api.Errno { return q.Back(w, 3, again) }, api.ErrSame)
		}
		drop(t, q, "a")
	}
}

// 14.2: Tick just ahead of a Till, just then, just behind; in what backs off alone.
func TestTick(t *testing.T) {
	for _, c := range []struct{ at, n int }{{-1, 0}, {0, 1}, {1, 1}, {1000, 1}} {
		q := queue.New()
		back(t, q, entry("a", 1, 0, 3, 0), 10, true)
		back(t, q, entry("b", 1, 1, 3, 0), 10, false)
		tickIs(t, fmt.Sprint(c.at, " behind Till"), q, 14+c.at, c.n)
		place := queue.Backs
		if c.n == 1 {
			place = queue.Ready
		}
		placeIs(t, "what backed off", q, place, entry("a", 1, 0, 3, 14))
		placeIs(t, "what is pooled", q, queue.Pooled, entry("b", 1, 1, 3, 14))
		tickIs(t, "again", q, 14+c.at, 0)
	}
}

// 14.2: Tick tells how many, whatever their order; the others stay.
func TestTickCounts(t *testing.T) {
	q := queue.New()
	for k := range 20 { // Tills 1, 2, 4, 8, 16, each four times
		back(t, q, entry(fmt.Sprint("p", 19-k), k%3, k, 1+k%5, 0), 0, true)
	}
	for _, c := range []struct{ now, n int }{{0, 0}, {1, 4}, {1, 0}, {3, 4}, {2, 0}, {8, 8}, {15, 0}, {0, 0}, {16, 4}, {16, 0}, {lastNow, 0}} {
		was := len(q.All(queue.Ready))
		tickIs(t, "many", q, c.now, c.n)
		same(t, "how many are ready", len(q.All(queue.Ready)), was+c.n)
		same(t, "how many back off", len(q.All(queue.Backs)), 20-was-c.n)
	}
}

// 14.2: what is ready counts for no Tick and no Move, and stays.
func TestReadyStays(t *testing.T) {
	q := queue.New()
	add(t, q, "a", 1)
	add(t, q, "b", 2)
	was := look(q)
	for _, now := range []int{0, 1, lastNow} {
		tickIs(t, "ready ones", q, now, 0)
		moveIs(t, "ready ones", q, now, 0)
	}
	same(t, "what is told then", look(q), was)
}

// 14.2: Move just ahead of a Till, just then, just behind; in what is pooled alone; and Tick of it then.
func TestMove(t *testing.T) {
	for _, c := range []struct{ at, place int }{{-4, queue.Backs}, {-1, queue.Backs}, {0, queue.Ready}, {1, queue.Ready}, {1000, queue.Ready}} {
		q := queue.New()
		back(t, q, entry("a", 1, 0, 3, 0), 10, false)
		back(t, q, entry("b", 1, 1, 3, 0), 10, true)
		moveIs(t, fmt.Sprint(c.at, " behind Till"), q, 14+c.at, 1)
		placeIs(t, "what was pooled", q, c.place, entry("a", 1, 0, 3, 14))
		placeIs(t, "what backs off", q, queue.Backs, entry("b", 1, 1, 3, 14))
		moveIs(t, "again", q, 14+c.at, 0)
		same(t, "the pool", len(q.All(queue.Pooled)), 0)
		due := 2
		if c.place == queue.Ready {
			due = 1
		}
		tickIs(t, "not yet", q, 13, 0)
		tickIs(t, "then", q, 14, due)
		placeIs(t, "what was pooled", q, queue.Ready, entry("a", 1, 0, 3, 14))
	}
}

// 14.2: Move tells how many left the pool, those that are due and those that are not.
func TestMoveCounts(t *testing.T) {
	q := queue.New()
	for k := range 20 { // Tills 1, 2, 4, 8, 16, each four times
		back(t, q, entry(fmt.Sprint("p", 19-k), k%3, k, 1+k%5, 0), 0, false)
	}
	moveIs(t, "many", q, 5, 20)
	same(t, "how many are where", []int{len(q.All(1)), len(q.All(2)), len(q.All(3))}, []int{12, 8, 0})
	back(t, q, entry("x", 0, 0, 0, 0), 7, false)
	moveIs(t, "one more", q, 7, 1)
	placeIs(t, "due at once", q, queue.Ready, entry("x", 0, 0, 0, 7))
	moveIs(t, "none", q, lastNow, 0)
	tickIs(t, "the rest", q, 16, 8)
}

// 14.2: a now that there is not is refused by Move and Tick, with nothing to move and with something.
func TestNoSuchNow(t *testing.T) {
	for _, q := range []*queue.Queue{queue.New(), mixed(t)} {
		for _, now := range noNows() {
			fails(t, fmt.Sprint("Move(", now, ")"), q, func() api.Errno {
				n, e := q.Move(now)
				same(t, "Move", n, 0)
				return e
			}, api.ErrArg)
			fails(t, fmt.Sprint("Tick(", now, ")"), q, func() api.Errno {
				n, e := q.Tick(now)
				same(t, "Tick", n, 0)
				return e
			}, api.ErrArg)
		}
	}
}

// 14.2: at the last moment, and at the first.
func TestFirstAndLastNow(t *testing.T) {
	q := mixed(t)
	moveIs(t, "at first", q, 0, 3)
	tickIs(t, "at first", q, 0, 0)
	tickIs(t, "at last", q, lastNow, 6)

	q = mixed(t)
	tickIs(t, "at last", q, lastNow, 3)
	moveIs(t, "at last", q, lastNow, 3)
	same(t, "all are ready", len(q.All(queue.Ready)), 9)

	q = queue.New()
	back(t, q, entry("a", 0, 0, 5, 0), lastNow, true)
	back(t, q, entry("b", 0, 0, 0, 0), lastNow, true)
	tickIs(t, "what backs off at last", q, lastNow, 1)
	placeIs(t, "what is due later than there is a now", q, queue.Backs, entry("a", 0, 0, 5, lastNow+16))
}

// 14.2: one that was never tried is due at once, but is not ready without a Tick or a Move.
func TestDueAtOnce(t *testing.T) {
	q := queue.New()
	back(t, q, entry("a", 0, 0, 0, 99), 5, true)
	back(t, q, entry("b", 0, 0, -3, 99), 5, false)
	placeIs(t, "with room", q, queue.Backs, entry("a", 0, 0, 0, 5))
	placeIs(t, "without", q, queue.Pooled, entry("b", 0, 0, -3, 5))
	tickIs(t, "ahead", q, 4, 0)
	tickIs(t, "then", q, 5, 1)
	moveIs(t, "then", q, 5, 1)
	same(t, "ready", names(q.All(queue.Ready)), []string{"a", "b"})
}
