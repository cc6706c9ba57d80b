package queue_test

import (
	"fmt"
	"math"
	"slices"
	"testing"

	"stevedore/api"
	"stevedore/queue"
)

// Rule 2: a queue that no call made answers ErrNil and zero values, at all arguments, and stays such a one.
func TestNoQueue(t *testing.T) {
	var none *queue.Queue
	for _, q := range []*queue.Queue{none, {}, new(queue.Queue)} {
		is := func(what string, e api.Errno) {
			t.Helper()
			same(t, what, int(e), int(api.ErrNil))
		}
		for range 2 {
			for _, name := range []string{"a", ""} {
				is("Add", q.Add(name, 1))
				is("Drop", q.Drop(name))
				is("Hope", q.Hope(name, "n"))
				is("Hope for none", q.Hope(name, ""))
				place, w, e := q.Place(name)
				same(t, "Place", []any{place, w, int(e)}, []any{0, api.Waiting{}, int(api.ErrNil)})
				for _, now := range []int{0, 5, -1, lastNow + 1} {
					is("Back", q.Back(entry(name, 1, 2, 3, 4), now, true))
					is("Back without room", q.Back(entry(name, 1, 2, 3, 4), now, false))
				}
				same(t, "Nominated", len(q.Nominated(name)), 0)
			}
			w, e := q.Pop()
			same(t, "Pop", []any{w, int(e)}, []any{api.Waiting{}, int(api.ErrNil)})
			for _, now := range []int{0, 5, -1, lastNow + 1} {
				n, e := q.Move(now)
				same(t, "Move", []int{n, int(e)}, []int{0, int(api.ErrNil)})
				n, e = q.Tick(now)
				same(t, "Tick", []int{n, int(e)}, []int{0, int(api.ErrNil)})
			}
			for _, place := range append(allPlaces(), noPlaces()...) {
				same(t, "All", len(q.All(place)), 0)
			}
			if q.Clone() != nil {
				t.Error("Clone of no queue is one")
			}
		}
	}
}

// 14.3: Drop from each place: it is there no more, the others stay, and a second one is refused.
func TestDrop(t *testing.T) {
	for _, name := range []string{"a", "b", "c", "d", "e", "f", "aa", "Z", "\xff"} {
		q := mixed(t)
		was := look(q)
		drop(t, q, name)
		isNowhere(t, "dropped", q, name)
		for _, place := range allPlaces() {
			rest := slices.DeleteFunc(slices.Clone(was.all[place]), func(w api.Waiting) bool { return w.Name == name })
			same(t, fmt.Sprint("the others of ", place), q.All(place), rest)
		}
		fails(t, "Drop again", q, func() api.Errno { return q.Drop(name) }, api.ErrNone)
		popped := slices.DeleteFunc(slices.Clone(was.popped), func(w api.Waiting) bool { return w.Name == name })
		same(t, "what is popped then", popAll(q), popped)
		tickIs(t, "what backs off then", q, 99, len(q.All(queue.Backs)))
	}
}

// 14.3: Drop of a name that is not there, of an empty one, of one that was popped, of one that only hopes: it goes on hoping.
func TestDropOfNobody(t *testing.T) {
	q := mixed(t)
	for _, name := range []string{"nobody", "", "A", "a\x00", "aaa", " a"} {
		fails(t, fmt.Sprintf("Drop(%q)", name), q, func() api.Errno { return q.Drop(name) }, api.ErrNone)
	}
	nominatedIs(t, "who only hopes", q, "n", "a", "d", "nobody")
	w, _ := q.Pop()
	same(t, "popped", w.Name, "a")
	fails(t, "Drop of what was popped", q, func() api.Errno { return q.Drop("a") }, api.ErrNone)
}

// 14.3: who is dropped hopes for nothing, from whichever place, also when it is back or added anew.
func TestHopeBehindDrop(t *testing.T) {
	for _, name := range []string{"a", "d", "Z"} {
		for _, again := range []func(q *queue.Queue){
			func(q *queue.Queue) {},
			func(q *queue.Queue) { q.Add(name, 1) },
			func(q *queue.Queue) { q.Back(entry(name, 1, 2, 3, 4), 5, true) },
			func(q *queue.Queue) { q.Back(entry(name, 1, 2, 3, 4), 5, false) },
		} {
			q := mixed(t)
			hope(t, q, name, "nn")
			hope(t, q, "b", "nn")
			nominatedIs(t, "ahead", q, "nn", slices.Sorted(slices.Values([]string{name, "b"}))...)
			drop(t, q, name)
			again(q)
			nominatedIs(t, "behind", q, "nn", "b")
			hope(t, q, name, "m")
			same(t, "it may hope again", slices.Contains(q.Nominated("m"), name), true)
		}
	}
}

// 14.2, 14.3: what a name hopes for stays as it was behind a Pop, a Back, a Tick, a Move and an Add.
func TestHopeStays(t *testing.T) {
	for _, room := range []bool{true, false} {
		q := queue.New()
		add(t, q, "a", 1)
		add(t, q, "b", 0)
		hope(t, q, "a", "n")
		hope(t, q, "b", "m")
		is := func(what string) {
			t.Helper()
			nominatedIs(t, what, q, "n", "a")
			nominatedIs(t, what, q, "m", "b")
			nominatedIs(t, what, q, "")
		}
		is("ready")
		w, _ := q.Pop()
		is("popped")
		back(t, q, w, 3, room)
		is("back")
		q.Move(3)
		is("moved")
		q.Tick(9)
		is("ready again")
		q.Pop()
		is("popped again")
		add(t, q, "a", 1)
		is("added again")
		q.Add("a", 2)
		q.Back(w, 3, room)
		is("behind what was refused")
	}
}

// 14.2: what was hoped for between a Pop and a Back is as it is then; so is hoping for none.
func TestHopeBetween(t *testing.T) {
	for _, room := range []bool{true, false} {
		q := queue.New()
		add(t, q, "a", 1)
		w, _ := q.Pop()
		hope(t, q, "a", "n")
		nominatedIs(t, "popped", q, "n", "a")
		back(t, q, w, 0, room)
		nominatedIs(t, "back", q, "n", "a")
		q.Move(1)
		q.Tick(1)
		w, _ = q.Pop()
		hope(t, q, "a", "m")
		back(t, q, w, 1, room)
		nominatedIs(t, "back with another hope", q, "n")
		nominatedIs(t, "back with another hope", q, "m", "a")
		q.Move(9)
		q.Tick(9)
		w, _ = q.Pop()
		hope(t, q, "a", "")
		back(t, q, w, 9, room)
		nominatedIs(t, "back without one", q, "m")
	}
}

// 14.3: a name hopes for one node at most; for none, if that is empty; whether it is in the queue or not.
func TestHope(t *testing.T) {
	q := mixed(t)
	was := look(q)
	for _, name := range []string{"a", "e", "\xff", "someone else"} {
		hope(t, q, name, "nn")
		nominatedIs(t, "hopes", q, "nn", name)
		hope(t, q, name, "nn")
		nominatedIs(t, "hopes for the same", q, "nn", name)
		hope(t, q, name, "nowhere")
		nominatedIs(t, "hopes for another one", q, "nn")
		nominatedIs(t, "hopes for another one", q, "nowhere", name)
		hope(t, q, name, "")
		nominatedIs(t, "hopes for none", q, "nowhere")
		nominatedIs(t, "hopes for none", q, "")
		hope(t, q, name, "")
		nominatedIs(t, "hopes for none, again", q, "")
	}
	hope(t, q, "a", "n")
	same(t, "all else", look(q), was)
}

// 14.3: a name that is not in the queue hopes, and does not come into it by that.
func TestHopeOfNobody(t *testing.T) {
	q := queue.New()
	hope(t, q, "a", "n")
	nominatedIs(t, "not in the queue", q, "n", "a")
	isNowhere(t, "who hopes", q, "a")
	for _, place := range append(allPlaces(), noPlaces()...) {
		same(t, fmt.Sprint("All(", place, ")"), len(q.All(place)), 0)
	}
	_, e := q.Pop()
	same(t, "Pop", int(e), int(api.ErrNone))
	fails(t, "Drop", q, func() api.Errno { return q.Drop("a") }, api.ErrNone)
	add(t, q, "a", 5)
	nominatedIs(t, "added", q, "n", "a")
	placeIs(t, "added", q, queue.Ready, entry("a", 5, 0, 0, 0))
	drop(t, q, "a")
	nominatedIs(t, "dropped", q, "n")

	hope(t, q, "b", "n")
	back(t, q, entry("b", 0, 0, 0, 0), 0, false)
	nominatedIs(t, "back", q, "n", "b")
}

// 14.3: an empty name is refused, whatever the node.
func TestHopeRefused(t *testing.T) {
	for _, q := range []*queue.Queue{queue.New(), mixed(t)} {
		for _, node := range someNodes() {
			fails(t, "Hope of an empty name", q, func() api.Errno { return q.Hope("", node) }, api.ErrArg)
		}
	}
}

// 14.3: Nominated: rising by name, byte by byte, whatever the order in which they hope, wherever they are; of another node nobody.
func TestNominated(t *testing.T) {
	q := mixed(t)
	nominatedIs(t, "mixed", q, "n", "a", "d", "nobody")
	nominatedIs(t, "mixed", q, "m", "Z")
	for _, node := range []string{"nn", "N", "nowhere", "a", "", "n\x00"} {
		nominatedIs(t, "nobody", q, node)
	}
	want := []string{"Z", "a", "aa", "b", "c", "d", "e", "f", "nobody", "\xff"}
	for _, name := range []string{"\xff", "f", "c", "aa", "e", "b", "Z"} {
		hope(t, q, name, "n")
	}
	nominatedIs(t, "all", q, "n", want...)
	nominatedIs(t, "asked again", q, "n", want...)
	nominatedIs(t, "the other node", q, "m")
}

// 14.3: Place in each of the three, and of a name that is not there.
func TestPlace(t *testing.T) {
	q := mixed(t)
	placeIs(t, "ready", q, queue.Ready, entry("b", 2, 7, 0, 0))
	placeIs(t, "backs off", q, queue.Backs, entry("e", 8, 1, 2, 12))
	placeIs(t, "pooled", q, queue.Pooled, entry("\xff", 4, 5, 3, 14))
	for _, name := range []string{"nobody", "", "A", "a\x00", "n", "ab"} {
		isNowhere(t, fmt.Sprintf("%q", name), q, name)
	}
}

// 14.3: All: others than ready ones by Seq, then by name, whatever their priorities, Tills and tries; of no other place any.
func TestAllInOrder(t *testing.T) {
	for _, room := range []bool{true, false} {
		q := queue.New()
		for _, w := range []api.Waiting{
			entry("e", 9, 5, 1, 0), entry("b", 1, 7, 5, 0), entry("d", 4, 5, 3, 0), entry("a", 3, math.MaxInt, 0, 0), entry("Z", 0, 7, 1, 0),
			entry("f", -9, math.MinInt, 9, 0), entry("c", 8, 0, 2, 0), entry("aa", 8, 7, 2, 0), entry("\xff", 99, 7, 0, 0),
		} {
			back(t, q, w, 3, room)
		}
		place, other := queue.Backs, queue.Pooled
		if !room {
			place, other = other, place
		}
		same(t, "by Seq, then by name", names(q.All(place)), []string{"f", "c", "d", "e", "Z", "aa", "b", "\xff", "a"})
		same(t, "the other one", len(q.All(other)), 0)
		same(t, "ready", len(q.All(queue.Ready)), 0)
		for _, no := range noPlaces() {
			same(t, fmt.Sprint("All(", no, ")"), len(q.All(no)), 0)
		}
		q.Move(99)
		q.Tick(99)
		same(t, "ready: by priority", names(q.All(queue.Ready)), []string{"\xff", "e", "c", "aa", "d", "a", "b", "Z", "f"})
		same(t, "left", len(q.All(queue.Backs))+len(q.All(queue.Pooled)), 0)
	}
}

// 14.3: All of ready ones is what Pops would bring, with tries as they are; nothing is taken out.
func TestAllOfReady(t *testing.T) {
	q := mixed(t)
	was := look(q)
	l := q.All(queue.Ready)
	same(t, "ready", l, []api.Waiting{entry("a", 3, 6, 0, 0), entry("b", 2, 7, 0, 0), entry("c", 1, 8, 0, 0)})
	same(t, "what is told then", look(q), was)
	for k := range l {
		l[k].Tries++
	}
	same(t, "popped", popAll(q), l)
}

// 14.3, rule 4: a clone tells the same, and goes on apart from the queue, by each call.
func TestClone(t *testing.T) {
	for what, do := range map[string]func(q *queue.Queue){
		"Add":           func(q *queue.Queue) { q.Add("a\x00", 50) },
		"Pop":           func(q *queue.Queue) { q.Pop() },
		"Back":          func(q *queue.Queue) { q.Back(entry("nobody", 1, 2, 3, 4), 5, true) },
		"Back no room":  func(q *queue.Queue) { q.Back(entry("nobody", 1, 2, 3, 4), 5, false) },
		"Move":          func(q *queue.Queue) { q.Move(12) },
		"Tick":          func(q *queue.Queue) { q.Tick(12) },
		"Drop ready":    func(q *queue.Queue) { q.Drop("b") },
		"Drop backs":    func(q *queue.Queue) { q.Drop("e") },
		"Drop pooled":   func(q *queue.Queue) { q.Drop("Z") },
		"Drop a hope":   func(q *queue.Queue) { q.Drop("a") },
		"Hope":          func(q *queue.Queue) { q.Hope("b", "n") },
		"Hope another":  func(q *queue.Queue) { q.Hope("a", "m") },
		"Hope for none": func(q *queue.Queue) { q.Hope("nobody", "") },
	} {
		q := mixed(t)
		c := q.Clone()
		if c == nil || c == q {
			t.Fatal("no clone")
		}
		was := look(q)
		same(t, what+": a clone", look(c), was)
		do(c)
		same(t, what+": the queue stays", look(q), was)
		there := look(c)
		if fmt.Sprint(there) == fmt.Sprint(was) {
			t.Errorf("%s changes nothing", what)
		}
		same(t, what+": a clone of the clone", look(c.Clone().Clone()), there)
		do(q)
		same(t, what+": the queue then", look(q), there)
		q.Add("x", 3)
		q.Pop()
		same(t, what+": the clone stays", look(c), there)
	}
	same(t, "a clone of a new one", look(queue.New().Clone()), look(queue.New()))
}

// Rule 4: what is handed out can be written into, behind its end, too, without a change in the queue.
func TestHandedOut(t *testing.T) {
	q := mixed(t)
	was := look(q)
	for _, place := range allPlaces() {
		l := q.All(place)
		l = l[:cap(l)]
		for k := range l {
			l[k] = entry("scribbled", -7, -7, -7, -7)
		}
	}
	for _, node := range someNodes() {
		l := q.Nominated(node)
		l = l[:cap(l)]
		for k := range l {
			l[k] = "scribbled"
		}
	}
	same(t, "the queue", look(q), was)

	a, b := q.All(queue.Backs), q.All(queue.Backs)
	a[0].Name = "scribbled"
	same(t, "two answers", b[0].Name, "d")
	x, y := q.Nominated("n"), q.Nominated("n")
	x[0] = "scribbled"
	same(t, "two answers", y[0], "a")
}

// 14.3: calls that tell change nothing, whatever they are asked.
func TestTellingChangesNothing(t *testing.T) {
	q := mixed(t)
	was := look(q)
	for range 3 {
		for _, name := range someNames() {
			q.Place(name)
			q.Nominated(name)
		}
		for _, place := range append(allPlaces(), noPlaces()...) {
			q.All(place)
		}
		q.Clone()
	}
	same(t, "what is told then", look(q), was)
}
