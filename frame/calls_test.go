package frame_test

import (
	"fmt"
	"testing"

	"stevedore/api"
	"stevedore/frame"
)

// 17.1: no calls yet; those of several runs one behind the other; none of a run that is refused.
func TestCalls(t *testing.T) {
	f := frameOf(t, saying("a", skip, yes, yes, wait), saying("b", yes, no, fault, yes))
	same(t, "none yet", f.Calls(), []string(nil))
	var want []string
	for _, c := range []struct {
		point int
		calls []string
	}{
		{frame.Filter, []string{"a:2", "b:2"}},
		{frame.Before, []string{"a:1", "b:1"}},
		{9, nil},
		{frame.Filter, []string{"b:2"}},
		{frame.Reserve, []string{"a:3", "b:3", "b:5", "a:5"}},
		{0, nil},
		{frame.Permit, []string{"a:4", "b:4"}},
		{frame.Unreserve, []string{"b:5", "a:5"}},
		{6, nil},
		{-1, nil},
		{frame.Before, []string{"a:1", "b:1"}},
	} {
		f.Run(c.point)
		want = append(want, c.calls...)
		same(t, fmt.Sprint("behind ", c.point), f.Calls(), want)
		same(t, "asked again", f.Calls(), want)
	}
}

// 17.1: all calls of very many runs are told.
func TestManyCalls(t *testing.T) {
	f := frameOf(t, many(api.MaxItems)...)
	for range 300 {
		f.Run(frame.Permit)
	}
	l := f.Calls()
	same(t, "how many", len(l), 300*api.MaxItems)
	for k, s := range l {
		if s != fmt.Sprintf("p%d:4", k%api.MaxItems) {
			t.Fatalf("call %d: %s", k, s)
		}
	}
}

// 17.1: Reset forgets all calls, and who skips, as often as it is done; runs go on behind it, and the scores stay.
func TestReset(t *testing.T) {
	l := []api.Plugin{saying("a", skip, no), saying("b", skip, yes, no), saying("c", wait)}
	for k := range l {
		l[k].Weight, l[k].Scores = k+1, []int{1, 2}
	}
	f := frameOf(t, l...)
	f.Reset()
	sameLook(t, "nothing to forget", look(f), lookAtModel(modelOf(l)))
	for range 2 {
		for _, point := range append(allPoints(), 6) {
			f.Run(point)
		}
		f.Reset()
		sameLook(t, "all forgotten", look(f), lookAtModel(modelOf(l)))
		f.Reset()
		sameLook(t, "twice", look(f), lookAtModel(modelOf(l)))
	}
	f.Run(frame.Before)
	was := f.Calls()
	f.Reset()
	f.Run(frame.Reserve)
	same(t, "what was told ahead of Reset", was, []string{"a:1", "b:1", "c:1"})
	same(t, "what is noted behind it", f.Calls(), []string{"a:3", "b:3", "b:5", "a:5"})
}
