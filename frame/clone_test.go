package frame_test

import (
	"testing"

	"stevedore/api"
	"stevedore/frame"
)

// begun is a frame in which one skips, and calls are noted.
func begun(t *testing.T) (*frame.Frame, *model) {
	t.Helper()
	l := []api.Plugin{saying("a", yes, yes, yes, wait), saying("b", skip, no, no), saying("c", skip, yes, yes, wait)}
	for k := range l {
		l[k].Weight, l[k].Scores = k+1, []int{10 * k, 7}
	}
	f, m := frameOf(t, l...), modelOf(l)
	for _, point := range []int{frame.Before, frame.Filter, frame.Reserve} {
		f.Run(point)
		m.Run(point)
	}
	return f, m
}

// 17.2: a clone is as the frame was, with what skips and what was noted.
func TestClone(t *testing.T) {
	f, m := begun(t)
	c := f.Clone()
	if c == nil || c == f {
		t.Fatalf("Clone: %p of %p", c, f)
	}
	sameLook(t, "the frame", look(f), lookAtModel(m))
	sameLook(t, "its clone", look(c), lookAtModel(m))
	same(t, "calls", c.Calls(), []string{"a:1", "b:1", "c:1", "a:2", "a:3", "b:3", "b:5", "a:5"})
	runIs(t, "who skips", c, frame.Filter, yes, "a:2")

	none := frameOf(t)
	sameLook(t, "a clone of no plugins", look(none.Clone()), lookAtModel(modelOf(nil)))
	fresh := frameOf(t, many(2)...)
	sameLook(t, "a clone of a new one", look(fresh.Clone()), lookAtModel(modelOf(many(2))))
}

// 17.2: what is done to the one changes nothing of the other.
func TestCloneIsItsOwn(t *testing.T) {
	for _, do := range []func(f *frame.Frame){
		func(f *frame.Frame) { f.Reset() },
		func(f *frame.Frame) { f.Run(frame.Before) },
		func(f *frame.Frame) { f.Run(frame.Permit) },
		func(f *frame.Frame) { f.Run(frame.Unreserve); f.Run(frame.Reserve) },
		func(f *frame.Frame) { f.Reset(); f.Run(frame.Unreserve) },
		func(f *frame.Frame) { f.Run(9) },
		func(f *frame.Frame) { f.Calls()[0] = "x"; f.Scores()[0] = 99 },
		func(f *frame.Frame) { f.Clone().Run(frame.Filter) },
	} {
		f, m := begun(t)
		c := f.Clone()
		do(f)
		sameLook(t, "the clone", look(c), lookAtModel(m))
		f, m = begun(t)
		c = f.Clone()
		do(c)
		sameLook(t, "the frame", look(f), lookAtModel(m))
	}
}

// 17.2: one of the two lets plugins skip, the other does not know of it.
func TestCloneAndSkips(t *testing.T) {
	f := frameOf(t, saying("a", skip), saying("b"))
	c := f.Clone()
	f.Run(frame.Before)
	runIs(t, "the clone", c, frame.Filter, yes, "a:2", "b:2")
	runIs(t, "the frame", f, frame.Filter, yes, "b:2")
	d := f.Clone()
	f.Reset()
	runIs(t, "a later clone", d, frame.Filter, yes, "b:2")
	runIs(t, "the frame, reset", f, frame.Filter, yes, "a:2", "b:2")
}

// 17.2: both go on from the same calls, by turns.
func TestCloneByTurns(t *testing.T) {
	for runs := range 9 { // for each way in which the list of calls may have room left
		f := frameOf(t, many(1)...)
		var want []string
		for range runs {
			f.Run(frame.Permit)
			want = append(want, "p0:4")
		}
		c := f.Clone()
		f.Run(frame.Filter)
		c.Run(frame.Reserve)
		f.Run(frame.Unreserve)
		c.Run(frame.Before)
		same(t, "the frame", f.Calls(), append(want[:runs:runs], "p0:2", "p0:5"))
		same(t, "the clone", c.Calls(), append(want[:runs:runs], "p0:3", "p0:1"))
	}
}

// Rule 2: a frame that no call made.
func TestNoFrame(t *testing.T) {
	var zero frame.Frame
	for _, f := range []*frame.Frame{nil, {}, new(frame.Frame), &zero} {
		for range 2 {
			for _, point := range append(allPoints(), noPoints()...) {
				code, e := f.Run(point)
				same(t, "Run", []int{code, int(e)}, []int{0, int(api.ErrNil)})
			}
			if l := f.Scores(); l != nil {
				t.Errorf("Scores: %v", l)
			}
			if l := f.Calls(); l != nil {
				t.Errorf("Calls: %v", l)
			}
			if c := f.Clone(); c != nil {
				t.Errorf("Clone: %v", c)
			}
			f.Reset() // nothing is done: it is no frame behind it either
		}
	}
}
