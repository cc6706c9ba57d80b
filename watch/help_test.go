package watch_test

import (
	"fmt"
	"math"
	"reflect"
	"slices"
	"testing"

	"stevedore/api"
	"stevedore/watch"
)

// same holds two answers against each other (an empty list is as none).
func same(t *testing.T, what string, got, want any) {
	t.Helper()
	if reflect.DeepEqual(got, want) {
		return
	}
	if g, w := fmt.Sprintf("%+v", got), fmt.Sprintf("%+v", want); g != w {
		t.Errorf("%s: %s, want %s", what, g, w)
	}
}

func allKinds() []int {
	return []int{api.KPod, api.KNode, api.KVolume, api.KClaim, api.KClass, api.KBudget}
}

// noKinds is numbers that are no kind, those beside the first and the last one among them.
func noKinds() []int { return []int{0, 7, 8, -1, -6, math.MinInt, math.MaxInt} }

// named is an object of a kind, with a name.
func named(kind int, name string) api.Object {
	o := api.Object{Kind: kind}
	switch kind {
	case api.KPod:
		o.Pod = api.Pod{Name: name, Labels: []api.Label{{Key: "app", Value: name}}}
	case api.KNode:
		o.Node = api.Node{Name: name, Labels: []api.Label{{Key: "zone", Value: name}}}
	case api.KVolume:
		o.Volume = api.Volume{Name: name, Class: "k"}
	case api.KClaim:
		o.Claim = api.Claim{Name: name, Class: "k"}
	case api.KClass:
		o.Class = api.Class{Name: name}
	case api.KBudget:
		o.Budget = api.Budget{Name: name, Least: 1}
	}
	return o
}

// change is one of a kind, told apart from others by the object's name.
func change(kind, version int) api.Change {
	return api.Change{Version: version, Op: api.Added + (version%3+3)%3, Object: named(kind, fmt.Sprint("o", version))}
}

// logOf is a log with a change of each of the kinds, versions counted from 1 on.
func logOf(kinds ...int) []api.Change {
	var log []api.Change
	for k, kind := range kinds {
		log = append(log, change(kind, k+1))
	}
	return log
}

// at is a log of changes of one kind with those versions.
func at(kind int, versions ...int) []api.Change {
	var log []api.Change
	for _, v := range versions {
		log = append(log, change(kind, v))
	}
	return log
}

// mixed is a log in which each kind stands several times, none alike, with kinds between that there are not.
func mixed() []api.Change {
	return logOf(1, 2, 1, 3, 0, 6, 6, 4, 1, 2, 5, 7, 2, 1, 3, -1, 4, 4, 5, 6, 1, 1)
}

// versions is those of a list of changes.
func versions(l []api.Change) []int {
	var out []int
	for _, c := range l {
		out = append(out, c.Version)
	}
	return out
}

// behind is the changes of a kind above a version, by the words.
func behind(kind, version int, log []api.Change) []api.Change {
	return slices.DeleteFunc(slices.Clone(log), func(c api.Change) bool { return c.Object.Kind != kind || c.Version <= version })
}

// told is all that calls can tell of one kind, and with which errors.
type told struct {
	seen, behind     int
	ofSeen, ofBehind api.Errno
	ofNext           api.Errno
}

// look is what calls can tell of a watcher, by kind; what else there is to be told comes from these.
func look(w *watch.Watcher, log []api.Change) map[int]told {
	all := map[int]told{}
	for _, kind := range allKinds() {
		var x told
		x.seen, x.ofSeen = w.Seen(kind)
		x.behind, x.ofBehind = w.Behind(kind, log)
		_, x.ofNext = w.Next(kind, 0, log)
		all[kind] = x
	}
	return all
}

// nextIs asks for those changes, whole, and where the cursor stands behind them.
func nextIs(t *testing.T, what string, w *watch.Watcher, kind, n int, log, want []api.Change, seen int) {
	t.Helper()
	got, e := w.Next(kind, n, log)
	same(t, what+": Next", []any{got, int(e)}, []any{want, 0})
	seenIs(t, what, w, kind, seen)
}

func seenIs(t *testing.T, what string, w *watch.Watcher, kind, want int) {
	t.Helper()
	n, e := w.Seen(kind)
	same(t, what+": Seen", []int{n, int(e)}, []int{want, 0})
}

func behindIs(t *testing.T, what string, w *watch.Watcher, kind int, log []api.Change, want int) {
	t.Helper()
	n, e := w.Behind(kind, log)
	same(t, what+": Behind", []int{n, int(e)}, []int{want, 0})
}

func listed(t *testing.T, w *watch.Watcher, kind, version int) {
	t.Helper()
	same(t, fmt.Sprint("List(", kind, ", ", version, ")"), int(w.List(kind, version)), 0)
}

func cut(t *testing.T, w *watch.Watcher, kind int) {
	t.Helper()
	same(t, fmt.Sprint("Cut(", kind, ")"), int(w.Cut(kind)), 0)
}

// nextFails asks for an error, for no changes with it, and that nothing is changed.
func nextFails(t *testing.T, what string, w *watch.Watcher, kind, n int, log []api.Change, want api.Errno) {
	t.Helper()
	fails(t, what, w, func() api.Errno {
		got, e := w.Next(kind, n, log)
		if len(got) > 0 {
			t.Errorf("%s: %d changes with an error", what, len(got))
		}
		return e
	}, want)
}

// fails asks for an error, and that nothing is changed.
func fails(t *testing.T, what string, w *watch.Watcher, do func() api.Errno, want api.Errno) {
	t.Helper()
	was := look(w, mixed())
	same(t, what, int(do()), int(want))
	same(t, what+": what is told then", look(w, mixed()), was)
}
