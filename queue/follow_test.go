package queue_test

import (
	"fmt"
	"math"
	"math/rand"
	"slices"
	"testing"

	"stevedore/api"
	"stevedore/queue"
)

// run is a queue, the model beside it, and what was popped and is not back.
type run struct {
	q   *queue.Queue
	m   *model
	out []api.Waiting
	now int
}

// both holds what the queue answers against what the model does.
func both(t *testing.T, what string, got, want []any) {
	t.Helper()
	if fmt.Sprintf("%#v", got) != fmt.Sprintf("%#v", want) {
		t.Fatalf("%s: %+v, want %+v", what, got, want)
	}
}

func pick[T any](r *rand.Rand, l []T) T { return l[r.Intn(len(l))] }

// someNow is mostly the run's moment, at times any one.
func (x *run) someNow(r *rand.Rand) int {
	switch r.Intn(12) {
	case 0:
		return pick(r, noNows())
	case 1:
		return pick(r, []int{0, lastNow})
	case 2:
		return max(0, x.now-r.Intn(20))
	}
	return x.now
}

// someEntry is mostly one that was popped, at times any one.
func (x *run) someEntry(r *rand.Rand) api.Waiting {
	if len(x.out) > 0 && r.Intn(4) > 0 {
		k := r.Intn(len(x.out))
		w := x.out[k]
		x.out = slices.Delete(x.out, k, k+1)
		return w
	}
	numbers := []int{-3, 0, 1, 2, 3, 4, 5, 6, 9, mostTries - 1, mostTries, mostTries + 1, math.MaxInt, math.MinInt}
	return entry(pick(r, someNames()), r.Intn(5)-2, pick(r, numbers), pick(r, numbers), pick(r, numbers))
}

// step does one call to both, drawn.
func (x *run) step(t *testing.T, r *rand.Rand) {
	t.Helper()
	name, node := pick(r, someNames()), pick(r, someNodes())
	x.now += r.Intn(3)
	switch r.Intn(12) {
	case 0, 1, 2:
		p := r.Intn(5) - 2
		both(t, "Add", []any{x.q.Add(name, p)}, []any{x.m.Add(name, p)})
	case 3, 4:
		w, e := x.q.Pop()
		w2, e2 := x.m.Pop()
		both(t, "Pop", []any{w, e}, []any{w2, e2})
		if e == api.OK {
			x.out = append(x.out, w)
		}
	case 5, 6:
		w, now, room := x.someEntry(r), x.someNow(r), r.Intn(2) == 0
		both(t, "Back", []any{x.q.Back(w, now, room)}, []any{x.m.Back(w, now, room)})
	case 7:
		now := x.someNow(r)
		n, e := x.q.Move(now)
		n2, e2 := x.m.Move(now)
		both(t, "Move", []any{n, e}, []any{n2, e2})
	case 8:
		now := x.someNow(r)
		n, e := x.q.Tick(now)
		n2, e2 := x.m.Tick(now)
		both(t, "Tick", []any{n, e}, []any{n2, e2})
	case 9:
		both(t, "Drop", []any{x.q.Drop(name)}, []any{x.m.Drop(name)})
	case 10:
		both(t, "Hope", []any{x.q.Hope(name, node)}, []any{x.m.Hope(name, node)})
	case 11:
		x.q = x.q.Clone()
	}
}

// 14.1 to 14.3: long runs of all calls, held against the words.
func TestByWords(t *testing.T) {
	r := rand.New(rand.NewSource(14))
	for range 150 {
		x := &run{q: queue.New(), m: newModel()}
		for range 120 {
			x.step(t, r)
			same(t, "what is told", look(x.q), lookAtModel(x.m))
			if t.Failed() {
				return
			}
		}
	}
}

// 14.1 to 14.3: the same calls come to the same, whatever the order of a map.
func TestSameAgain(t *testing.T) {
	for seed := range int64(20) {
		var first told
		for n := range 4 {
			r := rand.New(rand.NewSource(seed))
			x := &run{q: queue.New(), m: newModel()}
			for range 100 {
				x.step(t, r)
			}
			if n == 0 {
				first = look(x.q)
			}
			same(t, "again", look(x.q), first)
		}
	}
}

// 14.4: each entry is in just one place; what was added or is back, and was not popped or dropped, is there, and nobody else.
func TestNoneIsLost(t *testing.T) {
	r := rand.New(rand.NewSource(144))
	for range 100 {
		q, in := queue.New(), map[string]bool{}
		var out []api.Waiting
		for k := range 100 {
			name := fmt.Sprint("p", r.Intn(30))
			switch r.Intn(6) {
			case 0, 1:
				if q.Add(name, r.Intn(3)) == api.OK {
					in[name] = true
				}
			case 2:
				if w, e := q.Pop(); e == api.OK {
					delete(in, w.Name)
					out = append(out, w)
				}
			case 3:
				if len(out) > 0 && q.Back(out[0], k, r.Intn(2) == 0) == api.OK {
					in[out[0].Name] = true
				}
				out = out[min(1, len(out)):]
			case 4:
				q.Move(k)
				q.Tick(max(0, k-r.Intn(5)))
			case 5:
				if q.Drop(name) == api.OK {
					delete(in, name)
				}
			}
			var there []string
			for _, place := range allPlaces() {
				for _, w := range q.All(place) {
					there = append(there, w.Name)
					p, at, e := q.Place(w.Name)
					same(t, "Place and All", []any{p, at, e}, []any{place, w, api.OK})
				}
			}
			want := make([]string, 0, len(in))
			for name := range in {
				want = append(want, name)
			}
			slices.Sort(there)
			slices.Sort(want)
			same(t, "who is there", there, want)
		}
		if t.Failed() {
			return
		}
	}
}

// 14.5: Pops without anything between come by priority, falling, then by Seq; all that is ready comes.
func TestPopsInOrder(t *testing.T) {
	r := rand.New(rand.NewSource(145))
	for range 200 {
		q := queue.New()
		for k := range r.Intn(40) {
			add(t, q, fmt.Sprint("p", r.Intn(1<<40), k), r.Intn(7)-3)
		}
		for range r.Intn(10) {
			if w, e := q.Pop(); e == api.OK {
				back(t, q, w, r.Intn(3), r.Intn(2) == 0)
			}
		}
		q.Move(2)
		q.Tick(3)
		ready := q.All(queue.Ready)
		l := popAll(q)
		same(t, "all that is ready", names(l), names(ready))
		for k := range max(0, len(l)-1) {
			a, b := l[k], l[k+1]
			if a.Priority < b.Priority || a.Priority == b.Priority && a.Seq >= b.Seq {
				t.Fatalf("%+v comes ahead of %+v", a, b)
			}
		}
	}
}

// 14.6: what backs off is ready by a Tick at latest Cap ticks behind its Back, and not ahead of its delay; what is pooled by a Move, and then a Tick.
func TestComesAgain(t *testing.T) {
	for _, now := range []int{0, 1, 7, 1 << 30, lastNow - 2*queue.Cap} {
		for _, tries := range []int{math.MinInt, -1, 0, 1, 2, 3, 4, 5, 6, 40, 64, mostTries, math.MaxInt} {
			for behind := range queue.Cap + 2 {
				want := queue.Backs
				if behind >= delay(tries) {
					want = queue.Ready
				}
				q := queue.New()
				back(t, q, entry("a", 1, 2, tries, 3), now, true)
				q.Tick(now + behind)
				placeIs(t, fmt.Sprint("backed off, ", tries, " tries, ", behind, " behind"), q, want, entry("a", 1, 2, tries, now+delay(tries)))

				for moved := range behind + 1 {
					q = queue.New()
					back(t, q, entry("a", 1, 2, tries, 3), now, false)
					q.Move(now + moved)
					q.Tick(now + behind)
					placeIs(t, fmt.Sprint("pooled, ", tries, " tries, moved ", moved, ", ticked ", behind, " behind"), q, want, entry("a", 1, 2, tries, now+delay(tries)))
				}
			}
		}
	}
}

// 14.6: many at once, ticked at each moment: Cap behind the last Back all are ready; without a Move what is pooled stays.
func TestAllComeAgain(t *testing.T) {
	r := rand.New(rand.NewSource(146))
	for range 50 {
		q, pooled := queue.New(), 0
		for k := range 30 {
			room := r.Intn(3) > 0
			if !room {
				pooled++
			}
			back(t, q, entry(fmt.Sprint("p", k), r.Intn(3), k, r.Intn(9), 0), r.Intn(10), room)
		}
		for now := range 9 + queue.Cap + 1 {
			q.Tick(now)
		}
		same(t, "ticked alone", []int{len(q.All(1)), len(q.All(2)), len(q.All(3))}, []int{30 - pooled, 0, pooled})
		moveIs(t, "the pool", q, 0, pooled)
		q.Tick(9 + queue.Cap)
		same(t, "moved and ticked", []int{len(q.All(1)), len(q.All(2)), len(q.All(3))}, []int{30, 0, 0})
	}
}

// P1: all calls at all sorts of arguments end, and none panics; very many entries, too.
func TestVeryMany(t *testing.T) {
	q := queue.New()
	for k := range 3000 {
		add(t, q, fmt.Sprint("p", k), k%7)
		hope(t, q, fmt.Sprint("p", k), fmt.Sprint("n", k%10))
	}
	same(t, "ready", len(q.All(queue.Ready)), 3000)
	for _, w := range popAll(q) {
		back(t, q, w, 5, w.Seq%2 == 0)
	}
	tickIs(t, "half of them", q, 6, 1500)
	moveIs(t, "the others", q, 5, 1500)
	tickIs(t, "the others", q, 6, 1500)
	same(t, "nominated", len(q.Nominated("n3")), 300)
	same(t, "popped", len(popAll(q)), 3000)
}
