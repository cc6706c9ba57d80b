package watch_test

import (
	"fmt"
	"math"
	"testing"

	"stevedore/api"
	"stevedore/watch"
)

// The chapter's example.
func TestExample(t *testing.T) {
	log := logOf(api.KPod, api.KNode, api.KPod)
	w := watch.New(0)
	nextIs(t, "pods", w, api.KPod, 1, log, log[:1], 1)
	behindIs(t, "pods", w, api.KPod, log, 1)
	nextIs(t, "nodes", w, api.KNode, 9, log, log[1:2], 2)
	nextIs(t, "pods again", w, api.KPod, 9, log, log[2:], 3)
	behindIs(t, "pods again", w, api.KPod, log, 0)
}

// 13.1: each cursor of a new watcher stands at from, below 0 at 0; nothing is cut off.
func TestNew(t *testing.T) {
	for _, c := range []struct{ from, want int }{
		{math.MinInt, 0}, {-2, 0}, {-1, 0}, {0, 0}, {1, 1}, {2, 2}, {5, 5}, {1 << 40, 1 << 40}, {math.MaxInt, math.MaxInt},
	} {
		w, log := watch.New(c.from), mixed()
		if w == nil {
			t.Fatalf("New(%d): nil", c.from)
		}
		what := fmt.Sprint("New(", c.from, ")")
		for _, kind := range allKinds() {
			want := behind(kind, c.want, log)
			seenIs(t, what, w, kind, c.want)
			behindIs(t, what, w, kind, log, len(want))
			seen := c.want
			if len(want) > 0 {
				seen = want[len(want)-1].Version
			}
			nextIs(t, what, w, kind, 99, log, want, seen)
		}
		for _, kind := range allKinds() {
			cut(t, w, kind) // which was not cut off
		}
	}
}

// 13.1: a change of version 0, or below, never comes to a watcher that is new.
func TestNewAtVersions(t *testing.T) {
	for _, kind := range allKinds() {
		log := at(kind, -7, -1, 0, 1, 2)
		for _, from := range []int{math.MinInt, -9, -2, 0} {
			w := watch.New(from)
			behindIs(t, "from 0", w, kind, log, 2)
			nextIs(t, "from 0", w, kind, 9, log, log[3:], 2)
		}
		nextIs(t, "from 1", watch.New(1), kind, 9, log, log[4:], 2)
		nextIs(t, "from 2", watch.New(2), kind, 9, log, nil, 2)
	}
}

// 13.1: two new watchers are two.
func TestNewApart(t *testing.T) {
	a, b := watch.New(0), watch.New(0)
	was := look(b, mixed())
	a.Next(api.KPod, 2, mixed())
	a.List(api.KNode, 5)
	a.Cut(api.KClass)
	same(t, "the other one", look(b, mixed()), was)
}

// 13.1: Next of none, of fewer than there are, of just as many, of more; and where the cursor stands then.
func TestNextCounts(t *testing.T) {
	log := mixed()
	for _, kind := range allKinds() {
		all := behind(kind, 0, log)
		if len(all) < 2 {
			t.Fatalf("kind %d: %d changes", kind, len(all))
		}
		for n := range len(all) + 3 {
			w := watch.New(0)
			want, seen := all[:min(n, len(all))], 0
			if len(want) > 0 {
				seen = want[len(want)-1].Version
			}
			what := fmt.Sprint("kind ", kind, ", ", n)
			nextIs(t, what, w, kind, n, log, want, seen)
			behindIs(t, what, w, kind, log, len(all)-len(want))
		}
		for _, n := range []int{1 << 31, 1 << 40, math.MaxInt} {
			nextIs(t, "very many", watch.New(0), kind, n, log, all, all[len(all)-1].Version)
		}
	}
}

// 13.1: a number below 0 is refused, and of a kind that there is not, and where all is seen, too.
func TestNextBelowZero(t *testing.T) {
	for _, n := range []int{-1, -2, -1 << 40, math.MinInt} {
		w := watch.New(3)
		for _, kind := range allKinds() {
			nextFails(t, fmt.Sprint("Next of ", n), w, kind, n, mixed(), api.ErrArg)
			nextFails(t, fmt.Sprint("Next of ", n, " of no log"), w, kind, n, nil, api.ErrArg)
		}
		for _, kind := range noKinds() {
			nextFails(t, fmt.Sprint("Next of ", n, " of no kind"), w, kind, n, mixed(), api.ErrArg)
		}
	}
}

// 13.1: where nothing comes the cursor stays.
func TestNextNothing(t *testing.T) {
	for _, kind := range allKinds() {
		other := kind%6 + 1
		for _, c := range []struct {
			what string
			log  []api.Change
		}{
			{"no log", nil},
			{"an empty log", []api.Change{}},
			{"an empty log with room", logOf(kind, kind)[:0]},
			{"a log without that kind", at(other, 3, 4, 5, 6, 7)},
			{"a log of kinds that there are not", append(at(0, 6, 8), append(at(7, 9), at(-kind, 10)...)...)},
			{"all below the cursor", at(kind, 1, 2, 3, 4)},
			{"all at the cursor or below", at(kind, 1, 3, 5)},
			{"one, at the cursor", at(kind, 5)},
			{"those of that kind below, others above", append(at(kind, 4, 5), at(other, 6, 7)...)},
			{"versions below 0", at(kind, math.MinInt, -1)},
		} {
			for _, n := range []int{0, 1, 2, 99, math.MaxInt} {
				w := watch.New(5)
				was := look(w, mixed())
				nextIs(t, c.what, w, kind, n, c.log, nil, 5)
				behindIs(t, c.what, w, kind, c.log, 0)
				same(t, c.what+": what is told then", look(w, mixed()), was)
			}
		}
		w := watch.New(5)
		nextIs(t, "none asked for, though some are there", w, kind, 0, at(kind, 6, 7), nil, 5)
		behindIs(t, "and they are to come", w, kind, at(kind, 6, 7), 2)
		nextIs(t, "and they come then", w, kind, 2, at(kind, 6, 7), at(kind, 6, 7), 7)
	}
}

// 13.1: changes of several kinds between, in order, with what happened and the object as the log has it; the cursor stands at the last one's version, not at the log's.
func TestNextBetween(t *testing.T) {
	log := mixed()
	w := watch.New(0)
	for _, c := range []struct {
		kind, n int
		want    []int
		seen    int
	}{
		{api.KPod, 2, []int{1, 3}, 3},
		{api.KBudget, 1, []int{6}, 6},
		{api.KNode, 2, []int{2, 10}, 10},
		{api.KPod, 1, []int{9}, 9},
		{api.KBudget, 9, []int{7, 20}, 20},
		{api.KClass, 9, []int{11, 19}, 19},
		{api.KPod, 0, nil, 9},
		{api.KClaim, 2, []int{8, 17}, 17},
		{api.KVolume, 3, []int{4, 15}, 15},
		{api.KPod, 9, []int{14, 21, 22}, 22},
		{api.KNode, 1, []int{13}, 13},
		{api.KClaim, 1, []int{18}, 18},
		{api.KBudget, 1, nil, 20},
	} {
		var want []api.Change
		for _, v := range c.want {
			want = append(want, log[v-1])
		}
		nextIs(t, fmt.Sprint("kind ", c.kind, ", ", c.n), w, c.kind, c.n, log, want, c.seen)
	}
}

// 13.1: versions need not be those that count from 1 on; the log may be a piece of a longer one.
func TestNextGaps(t *testing.T) {
	for _, kind := range allKinds() {
		log := at(kind, 3, 7, 8, 100, 1<<40, math.MaxInt)
		w := watch.New(4)
		behindIs(t, "gaps", w, kind, log, 5)
		nextIs(t, "gaps", w, kind, 2, log, log[1:3], 8)
		nextIs(t, "a piece of the log", w, kind, 1, log[3:], log[3:4], 100)
		nextIs(t, "a piece with too little", w, kind, 9, log[:3], nil, 100)
		nextIs(t, "the rest", w, kind, 9, log, log[4:], math.MaxInt)
		nextIs(t, "nothing is above the last number", w, kind, 9, log, nil, math.MaxInt)
		behindIs(t, "nothing is above the last number", w, kind, log, 0)
	}
}

// 13.1: a log that has grown tells what is new.
func TestNextGrowing(t *testing.T) {
	log := mixed()
	for _, kind := range allKinds() {
		w := watch.New(0)
		var got []api.Change
		for n := range len(log) + 1 {
			l, e := w.Next(kind, 9, log[:n])
			if e != api.OK || len(l) > 1 {
				t.Fatalf("%d changes, error %d", len(l), e)
			}
			got = append(got, l...)
			same(t, "so far", got, behind(kind, 0, log[:n]))
		}
	}
}

// P1: lists that are no logs are gone through as they stand.
func TestNextNoLog(t *testing.T) {
	for _, kind := range allKinds() {
		log := at(kind, 5, 2, 9, 0, 9, 4, 7)
		w := watch.New(3)
		behindIs(t, "no log", w, kind, log, 5)
		nextIs(t, "no log", w, kind, 3, log, at(kind, 5, 9, 9), 9)
		nextIs(t, "no log", w, kind, 3, log, nil, 9)
		nextIs(t, "no log", watch.New(4), kind, 9, log, at(kind, 5, 9, 9, 7), 7)
	}
}

// 13.1: a kind that is cut off tells so, till it is listed; the cursor stays where it was.
func TestCut(t *testing.T) {
	log := mixed()
	for _, kind := range allKinds() {
		w := watch.New(2)
		l, _ := w.Next(kind, 1, log)
		seen := l[0].Version
		cut(t, w, kind)
		for _, n := range []int{0, 1, 99, math.MaxInt} {
			nextFails(t, "Next of what is cut off", w, kind, n, log, api.ErrGone)
			nextFails(t, "Next of what is cut off, of no log", w, kind, n, nil, api.ErrGone)
		}
		fails(t, "Cut of what is cut off", w, func() api.Errno { return w.Cut(kind) }, api.ErrGone)
		fails(t, "and once more", w, func() api.Errno { return w.Cut(kind) }, api.ErrGone)
		seenIs(t, "cut off", w, kind, seen)
		behindIs(t, "cut off", w, kind, log, len(behind(kind, seen, log)))
		behindIs(t, "cut off, no log", w, kind, nil, 0)
		listed(t, w, kind, seen)
		nextIs(t, "listed", w, kind, 1, log, behind(kind, seen, log)[:1], behind(kind, seen, log)[0].Version)
		cut(t, w, kind)
		fails(t, "cut off again", w, func() api.Errno { return w.Cut(kind) }, api.ErrGone)
	}
}

// 13.1: ErrArg counts ahead of ErrGone.
func TestWhichError(t *testing.T) {
	w := watch.New(0)
	for _, kind := range allKinds() {
		cut(t, w, kind)
	}
	for _, kind := range allKinds() {
		for _, n := range []int{-1, -9, math.MinInt} {
			nextFails(t, "a number below 0 of what is cut off", w, kind, n, mixed(), api.ErrArg)
			fails(t, "a version below 0 of what is cut off", w, func() api.Errno { return w.List(kind, n) }, api.ErrArg)
		}
	}
	for _, kind := range noKinds() {
		nextFails(t, "no kind, where all is cut off", w, kind, 1, mixed(), api.ErrArg)
		nextFails(t, "no kind, a number below 0", w, kind, -1, mixed(), api.ErrArg)
		fails(t, "Cut of no kind", w, func() api.Errno { return w.Cut(kind) }, api.ErrArg)
		fails(t, "List of no kind", w, func() api.Errno { return w.List(kind, 1) }, api.ErrArg)
		fails(t, "List of no kind, below 0", w, func() api.Errno { return w.List(kind, -1) }, api.ErrArg)
	}
}

// 13.1: List sets the cursor to any version, ahead or back, of a kind that is cut off and of one that is not.
func TestList(t *testing.T) {
	log := mixed()
	for _, kind := range allKinds() {
		for _, isCut := range []bool{false, true} {
			for _, version := range []int{0, 1, 3, 8, 9, 10, 21, 22, 23, 1 << 40, math.MaxInt} {
				w := watch.New(9)
				if isCut {
					cut(t, w, kind)
				}
				listed(t, w, kind, version)
				what := fmt.Sprint("listed at ", version)
				want := behind(kind, version, log)
				seenIs(t, what, w, kind, version)
				behindIs(t, what, w, kind, log, len(want))
				last := version
				if len(want) > 0 {
					last = want[len(want)-1].Version
				}
				nextIs(t, what, w, kind, 99, log, want, last)
				cut(t, w, kind)
			}
		}
	}
}

// 13.1: a version below 0 is refused; what is cut off stays so, and what is not, too.
func TestListBelowZero(t *testing.T) {
	for _, kind := range allKinds() {
		for _, version := range []int{-1, -2, math.MinInt} {
			w := watch.New(4)
			fails(t, "List", w, func() api.Errno { return w.List(kind, version) }, api.ErrArg)
			cut(t, w, kind)
			fails(t, "List of what is cut off", w, func() api.Errno { return w.List(kind, version) }, api.ErrArg)
			nextFails(t, "it is still cut off", w, kind, 1, mixed(), api.ErrGone)
			seenIs(t, "and stands where it stood", w, kind, 4)
		}
	}
}

// 13.1: what was seen comes again, if it was listed back.
func TestListBack(t *testing.T) {
	log := mixed()
	w := watch.New(0)
	all := behind(api.KPod, 0, log)
	for range 3 {
		nextIs(t, "all", w, api.KPod, 99, log, all, 22)
		listed(t, w, api.KPod, 0)
	}
	nextIs(t, "some", w, api.KPod, 2, log, all[:2], 3)
	listed(t, w, api.KPod, 13)
	nextIs(t, "behind what was skipped", w, api.KPod, 1, log, all[3:4], 14)
}
