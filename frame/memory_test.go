package frame_test

import (
	"fmt"
	"reflect"
	"testing"

	"stevedore/api"
	"stevedore/frame"
)

// handed is a list with much in it, in memory that has room behind its end.
func handed() []api.Plugin {
	l := make([]api.Plugin, 0, 8)
	for k, p := range []api.Plugin{saying("a", skip, yes, yes, wait), saying("b", yes, skip, no), saying("c", skip, no, wait, skip)} {
		p.Weight, p.Scores = k+1, append(make([]int, 0, 8), 10*k, 7, 100-k)
		l = append(l, p)
	}
	return l
}

// spoil changes all that is in a list, and what its memory has room for.
func spoil(l []api.Plugin) {
	for k := range l {
		s := l[k].Scores[:cap(l[k].Scores)]
		for i := range s {
			s[i] = -55
		}
	}
	l = l[:cap(l)]
	for k := range l {
		l[k] = api.Plugin{Name: "spoilt", Before: 1, Filter: 2, Reserve: 2, Permit: 2, Weight: 99, Scores: []int{1}}
	}
}

// Rule 4: what was handed in is changed afterwards: the frame stays as it was, and its clones.
func TestHandedInIsNotKept(t *testing.T) {
	l := handed()
	m := modelOf(l)
	f := frameOf(t, l...)
	c := f.Clone()
	spoil(l)
	sameLook(t, "the frame", look(f), lookAtModel(m))
	sameLook(t, "its clone", look(c), lookAtModel(m))
	for _, point := range allPoints() {
		code, _ := f.Run(point)
		want, _ := m.Run(point)
		same(t, fmt.Sprint("Run ", point), code, want)
	}
	sameLook(t, "behind runs", look(f), lookAtModel(m))
}

// Rule 4: what is handed in is not changed, by New or by any call behind it; neither is the room behind its lists.
func TestHandedInIsNotChanged(t *testing.T) {
	whole := func(l []api.Plugin) []api.Plugin {
		out := copies(l[:cap(l)])
		for k := range l {
			out[k].Scores = append([]int(nil), l[k].Scores[:cap(l[k].Scores)]...)
		}
		return out
	}
	l := handed()
	was := whole(l)
	f := frameOf(t, l...)
	for _, point := range append(allPoints(), noPoints()...) {
		f.Run(point)
	}
	f.Scores()
	f.Calls()
	f.Clone().Reset()
	f.Reset()
	if now := whole(l); !reflect.DeepEqual(now, was) {
		t.Errorf("handed in: %+v, was %+v", now, was)
	}
	l[1].Name = l[0].Name
	was = whole(l)
	refusedList(t, "a name twice", l...)
	if now := whole(l); !reflect.DeepEqual(now, was) {
		t.Errorf("handed in and refused: %+v, was %+v", now, was)
	}
}

// Rule 4: lists of scores that lie in one memory are each as they were told.
func TestSharedScores(t *testing.T) {
	s := []int{1, 2, 3}
	f := frameOf(t, scoring("a", 1, s...), scoring("b", 10, s...), scoring("c", 100, s[:3:3]...))
	same(t, "shared", f.Scores(), []int{111, 222, 333})
	s[0], s[1], s[2] = 9, 9, 9
	same(t, "changed", f.Scores(), []int{111, 222, 333})
}

// Rule 4: what is handed out is the caller's own, also of a frame with one plugin of weight 1.
func TestHandedOutIsTheCallers(t *testing.T) {
	single := []api.Plugin{scoring("a", 1, 4, 5)}
	for _, l := range [][]api.Plugin{handed(), single} {
		f, m := frameOf(t, l...), modelOf(l)
		for _, point := range allPoints() {
			f.Run(point)
			m.Run(point)
		}
		for range 2 {
			calls, scores := f.Calls(), f.Scores()
			kept := f.Calls()
			for k := range calls {
				calls[k] = "spoilt"
			}
			for k := range scores {
				scores[k] = -1
			}
			// What lies behind the end is the caller's, too.
			_, _ = append(calls, "more"), append(scores, -2)
			same(t, "what was handed out beside it", kept, m.calls)
			sameLook(t, "the frame", look(f), lookAtModel(m))
			f.Run(frame.Permit)
			m.Run(frame.Permit)
			sameLook(t, "the frame, gone on", look(f), lookAtModel(m))
		}
	}
}
