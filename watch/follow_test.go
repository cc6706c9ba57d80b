package watch_test

import (
	"fmt"
	"math/rand"
	"reflect"
	"slices"
	"testing"

	"stevedore/api"
	"stevedore/object"
	"stevedore/store"
	"stevedore/watch"
)

// someLog is a log with versions that rise, by one or by more, of any kinds.
func someLog(r *rand.Rand, n int) []api.Change {
	var log []api.Change
	version := r.Intn(3)
	for range n {
		version++
		if r.Intn(4) == 0 {
			version += r.Intn(5)
		}
		log = append(log, change(r.Intn(8), version))
	}
	return log
}

// 13.3: what comes by pieces is what comes at once, and is a beginning of the log's changes of that kind behind the first cursor.
func TestPieces(t *testing.T) {
	r := rand.New(rand.NewSource(13))
	for range 500 {
		log := someLog(r, r.Intn(40))
		kind, from := 1+r.Intn(6), r.Intn(30)-3
		want := behind(kind, max(from, 0), log)
		w := watch.New(from)
		var got []api.Change
		for range r.Intn(12) {
			n := r.Intn(4)
			left := len(want) - len(got)
			behindIs(t, "ahead", w, kind, log, left)
			l, e := w.Next(kind, n, log)
			same(t, "how many", []int{len(l), int(e)}, []int{min(n, left), 0})
			got = append(got, l...)
			same(t, "by pieces", got, want[:len(got)])
		}
		atOnce, _ := watch.New(from).Next(kind, len(got), log)
		same(t, "at once", atOnce, got)
		rest, _ := w.Next(kind, len(log), log)
		same(t, "with the rest", append(got, rest...), want)
	}
}

// 13.3: pieces of one each, of every size, and of sizes by turns.
func TestPiecesOfEachSize(t *testing.T) {
	log := mixed()
	for _, kind := range allKinds() {
		want := behind(kind, 2, log)
		for size := 1; size <= len(want)+1; size++ {
			w := watch.New(2)
			var got []api.Change
			for {
				l, e := w.Next(kind, size, log)
				same(t, "Next", int(e), 0)
				if len(l) == 0 {
					break
				}
				got = append(got, l...)
			}
			same(t, fmt.Sprint("kind ", kind, " by ", size), got, want)
		}
	}
}

// 13.4: calls for one kind, taken or refused, change nothing of what is told of another, and what comes of it is the same.
func TestKindsApart(t *testing.T) {
	log := mixed()
	for _, kind := range allKinds() {
		for what, do := range map[string]func(w *watch.Watcher){
			"Next of one":     func(w *watch.Watcher) { w.Next(kind, 1, log) },
			"Next of all":     func(w *watch.Watcher) { w.Next(kind, 99, log) },
			"Next of none":    func(w *watch.Watcher) { w.Next(kind, 0, log) },
			"Next below 0":    func(w *watch.Watcher) { w.Next(kind, -1, log) },
			"Cut":             func(w *watch.Watcher) { w.Cut(kind) },
			"Cut twice":       func(w *watch.Watcher) { w.Cut(kind); w.Cut(kind) },
			"Cut and List":    func(w *watch.Watcher) { w.Cut(kind); w.List(kind, 12) },
			"Cut and Next":    func(w *watch.Watcher) { w.Cut(kind); w.Next(kind, 1, log) },
			"List back":       func(w *watch.Watcher) { w.List(kind, 0) },
			"List ahead":      func(w *watch.Watcher) { w.List(kind, 22) },
			"List below 0":    func(w *watch.Watcher) { w.List(kind, -1) },
			"Seen and Behind": func(w *watch.Watcher) { w.Seen(kind); w.Behind(kind, log) },
		} {
			for _, isCut := range []bool{false, true} {
				w := watch.New(3)
				for _, other := range allKinds() {
					if isCut && other != kind {
						w.Cut(other)
					}
				}
				was := look(w, log)
				do(w)
				is := look(w, log)
				delete(was, kind)
				delete(is, kind)
				same(t, fmt.Sprint(what, " of ", kind), is, was)
				for _, other := range allKinds() {
					if want := behind(other, 3, log); other != kind && !isCut {
						nextIs(t, fmt.Sprint(other, " behind ", what, " of ", kind), w, other, 99, log, want, want[len(want)-1].Version)
					}
				}
			}
		}
	}
}

// place is a cursor by the words.
type place struct {
	seen int
	gone bool
}

// model is a watcher by the words.
type model map[int]place

func modelOf(from int) model {
	m := model{}
	for _, kind := range allKinds() {
		m[kind] = place{seen: max(from, 0)}
	}
	return m
}

func (m model) next(kind, n int, log []api.Change) ([]api.Change, api.Errno) {
	p, is := m[kind]
	if !is || n < 0 {
		return nil, api.ErrArg
	}
	if p.gone {
		return nil, api.ErrGone
	}
	l := behind(kind, p.seen, log)
	l = l[:min(n, len(l))]
	if len(l) > 0 {
		m[kind] = place{seen: l[len(l)-1].Version}
	}
	return l, api.OK
}

func (m model) cut(kind int) api.Errno {
	p, is := m[kind]
	if !is {
		return api.ErrArg
	}
	if p.gone {
		return api.ErrGone
	}
	m[kind] = place{p.seen, true}
	return api.OK
}

func (m model) list(kind, version int) api.Errno {
	if _, is := m[kind]; !is || version < 0 {
		return api.ErrArg
	}
	m[kind] = place{seen: version}
	return api.OK
}

// look is as that of a watcher.
func (m model) look(log []api.Change) map[int]told {
	all := map[int]told{}
	for kind, p := range m {
		x := told{seen: p.seen, behind: len(behind(kind, p.seen, log))}
		if p.gone {
			x.ofNext = api.ErrGone
		}
		all[kind] = x
	}
	return all
}

// 13.1 to 13.4: long runs of any calls, over a log that grows, come to what the words say; a refused call changes nothing.
func TestRuns(t *testing.T) {
	for seed := range 60 {
		r := rand.New(rand.NewSource(int64(seed)))
		whole := someLog(r, 120)
		from := r.Intn(20) - 5
		w, m := watch.New(from), modelOf(from)
		for step := range 200 {
			log := whole[:min(step, len(whole))]
			kind, n := r.Intn(9)-1, r.Intn(8)-2
			switch r.Intn(8) {
			case 0:
				same(t, "Cut", int(w.Cut(kind)), int(m.cut(kind)))
			case 1:
				n += r.Intn(60)
				same(t, "List", int(w.List(kind, n)), int(m.list(kind, n)))
			case 2:
				w = w.Clone()
			default:
				got, e := w.Next(kind, n, log)
				want, f := m.next(kind, n, log)
				same(t, "Next", []any{got, int(e)}, []any{want, int(f)})
			}
			same(t, "what is told", look(w, log), m.look(log))
			if t.Failed() {
				t.Fatalf("seed %d, step %d", seed, step)
			}
		}
	}
}

// done does a change to a state.
func done(s api.State, c api.Change) api.State {
	if c.Op == api.Removed {
		s, _ = object.Remove(s, c.Object.Kind, object.Name(c.Object))
		return s
	}
	s, _, _ = object.Put(s, c.Object)
	return s
}

// busy puts and deletes any objects.
func busy(r *rand.Rand, x *store.Store, n int) {
	for range n {
		kind, name := 1+r.Intn(6), string(rune('a'+r.Intn(4)))
		if r.Intn(3) == 0 {
			x.Delete(kind, name)
			continue
		}
		x.Put(named(kind, name))
	}
}

// 13.3 over the authority's own log: what comes of each kind, late and by pieces, or listed anew when it is cut off, comes to the objects of that kind.
func TestStoreSeenLate(t *testing.T) {
	for seed := range 20 {
		r := rand.New(rand.NewSource(int64(seed)))
		x, _ := store.New(api.State{})
		w := watch.New(x.Version())
		var known [7]api.State
		for range 30 {
			busy(r, x, r.Intn(5))
			kind := 1 + r.Intn(6)
			if r.Intn(10) == 0 {
				w.Cut(kind)
			}
			l, e := w.Next(kind, r.Intn(4), x.Log(0))
			if e == api.ErrGone {
				known[kind] = x.State()
				same(t, "List", int(w.List(kind, x.Version())), 0)
			}
			for _, c := range l {
				known[kind] = done(known[kind], c)
			}
		}
		for _, kind := range allKinds() {
			w.List(kind, seenOf(w, kind)) // cut off no more, with the same to come
			from := seenOf(w, kind)
			l, _ := w.Next(kind, x.Version(), x.Log(from))
			same(t, "by what is above the cursor alone", len(l), len(behind(kind, from, x.Log(0))))
			for _, c := range l {
				known[kind] = done(known[kind], c)
			}
			same(t, fmt.Sprint("kind ", kind), object.All(known[kind], kind), object.All(x.State(), kind))
			behindIs(t, "all came", w, kind, x.Log(0), 0)
		}
	}
}

func seenOf(w *watch.Watcher, kind int) int {
	n, _ := w.Seen(kind)
	return n
}

// Rule 5 of the language: the same calls come to the same.
func TestSameCalls(t *testing.T) {
	run := func() []any {
		w := watch.New(1)
		var out []any
		for k := range 40 {
			l, e := w.Next(k%9-1, k%4-1, mixed())
			out = append(out, versions(l), int(e), int(w.Cut(k*5%11)), int(w.List(k*7%13, k%6-1)))
		}
		return append(out, look(w, mixed()))
	}
	if a, b := run(), run(); !slices.EqualFunc(a, b, func(x, y any) bool { return reflect.DeepEqual(x, y) }) {
		t.Errorf("%v, and then %v", a, b)
	}
}
