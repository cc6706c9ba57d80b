package watch_test

import (
	"fmt"
	"testing"

	"stevedore/api"
	"stevedore/watch"
)

// Rule 2: a watcher that no call made answers ErrNil and zero values, at all arguments, and stays such a one.
func TestNoWatcher(t *testing.T) {
	var none *watch.Watcher
	for _, w := range []*watch.Watcher{none, {}, new(watch.Watcher)} {
		for range 2 {
			for _, kind := range append(allKinds(), noKinds()...) {
				for _, n := range []int{0, 1, 5, -1} {
					l, e := w.Next(kind, n, mixed())
					same(t, "Next", []int{len(l), int(e)}, []int{0, int(api.ErrNil)})
					l, e = w.Next(kind, n, nil)
					same(t, "Next of no log", []int{len(l), int(e)}, []int{0, int(api.ErrNil)})
					same(t, "List", int(w.List(kind, n)), int(api.ErrNil))
				}
				same(t, "Cut", int(w.Cut(kind)), int(api.ErrNil))
				n, e := w.Seen(kind)
				same(t, "Seen", []int{n, int(e)}, []int{0, int(api.ErrNil)})
				n, e = w.Behind(kind, mixed())
				same(t, "Behind", []int{n, int(e)}, []int{0, int(api.ErrNil)})
				n, e = w.Behind(kind, nil)
				same(t, "Behind of no log", []int{n, int(e)}, []int{0, int(api.ErrNil)})
			}
			if w.Clone() != nil {
				t.Error("Clone of no watcher is one")
			}
		}
	}
}

// 13.1, 13.2: kinds that there are not, below the first and above the last, are refused by each call.
func TestNoKind(t *testing.T) {
	w := watch.New(2)
	w.Next(api.KPod, 1, mixed())
	w.Cut(api.KNode)
	for _, kind := range noKinds() {
		what := fmt.Sprint("kind ", kind)
		log := append(mixed(), at(kind, 30, 31)...)
		for _, n := range []int{0, 1, 99} {
			nextFails(t, what+": Next", w, kind, n, log, api.ErrArg)
			nextFails(t, what+": Next of no log", w, kind, n, nil, api.ErrArg)
			fails(t, what+": List", w, func() api.Errno { return w.List(kind, n) }, api.ErrArg)
		}
		fails(t, what+": Cut", w, func() api.Errno { return w.Cut(kind) }, api.ErrArg)
		fails(t, what+": Cut again", w, func() api.Errno { return w.Cut(kind) }, api.ErrArg)
		fails(t, what+": Seen", w, func() api.Errno {
			n, e := w.Seen(kind)
			same(t, what+": Seen", n, 0)
			return e
		}, api.ErrArg)
		fails(t, what+": Behind", w, func() api.Errno {
			n, e := w.Behind(kind, log)
			same(t, what+": Behind", n, 0)
			return e
		}, api.ErrArg)
	}
}

// 13.2: Behind ahead of a Next and behind it, and of logs with nothing to tell.
func TestBehind(t *testing.T) {
	log := mixed()
	for _, kind := range allKinds() {
		w := watch.New(0)
		all := len(behind(kind, 0, log))
		for left := all; left > 0; left-- {
			behindIs(t, "ahead of a Next", w, kind, log, left)
			behindIs(t, "asked again", w, kind, log, left)
			behindIs(t, "no log", w, kind, nil, 0)
			behindIs(t, "an empty log", w, kind, []api.Change{}, 0)
			behindIs(t, "a log without that kind", w, kind, at(kind%6+1, 50, 51), 0)
			behindIs(t, "a log of kinds that there are not", w, kind, append(at(0, 50), at(7, 51)...), 0)
			l, _ := w.Next(kind, 1, log)
			same(t, "one came", len(l), 1)
		}
		behindIs(t, "all came", w, kind, log, 0)
		behindIs(t, "one more in the log", w, kind, append(mixed(), change(kind, 23)), 1)
	}
}

// 13.2: Seen and Behind change nothing, whatever they are asked.
func TestTellingChangesNothing(t *testing.T) {
	w := watch.New(3)
	cut(t, w, api.KClaim)
	was := look(w, mixed())
	for _, kind := range append(allKinds(), noKinds()...) {
		w.Seen(kind)
		w.Behind(kind, mixed())
		w.Behind(kind, nil)
	}
	same(t, "what is told then", look(w, mixed()), was)
	nextIs(t, "and what comes", w, api.KPod, 1, mixed(), mixed()[8:9], 9)
}

// 13.2: a clone tells the same, and goes on apart from the watcher.
func TestClone(t *testing.T) {
	log := mixed()
	x := watch.New(2)
	x.Next(api.KPod, 1, log)
	x.Cut(api.KNode)
	x.List(api.KBudget, 7)
	y := x.Clone()
	if y == nil || y == x {
		t.Fatal("no clone")
	}
	was := look(x, log)
	same(t, "a clone", look(y, log), was)

	nextIs(t, "the clone goes on", y, api.KPod, 2, log, []api.Change{log[8], log[13]}, 14)
	listed(t, y, api.KNode, 5)
	cut(t, y, api.KClass)
	same(t, "the watcher stays", look(x, log), was)
	there := look(y, log)

	nextIs(t, "the watcher goes on", x, api.KPod, 1, log, log[8:9], 9)
	nextIs(t, "in another kind", x, api.KClass, 1, log, log[10:11], 11)
	listed(t, x, api.KNode, 1)
	cut(t, x, api.KBudget)
	same(t, "the clone stays", look(y, log), there)

	z := y.Clone().Clone()
	same(t, "a clone of a clone", look(z, log), there)
	same(t, "a clone of a new one", look(watch.New(4).Clone(), log), look(watch.New(4), log))
}

// 13.2: of each kind the clone's cursor is its own, and whether it is cut off.
func TestCloneOfEachKind(t *testing.T) {
	log := mixed()
	for _, kind := range allKinds() {
		x := watch.New(1)
		y := x.Clone()
		was := look(x, log)
		cut(t, y, kind)
		same(t, "the clone cut off", look(x, log), was)
		listed(t, y, kind, 6)
		same(t, "the clone listed", look(x, log), was)
		y.Next(kind, 1, log)
		same(t, "the clone ahead", look(x, log), was)
		cut(t, x, kind)
		z := x.Clone()
		nextFails(t, "a clone of what is cut off", z, kind, 1, log, api.ErrGone)
		listed(t, z, kind, 0)
		nextFails(t, "which is still cut off itself", x, kind, 1, log, api.ErrGone)
	}
}
