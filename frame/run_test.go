package frame_test

import (
	"fmt"
	"testing"

	"stevedore/api"
	"stevedore/frame"
)

const (
	yes   = api.CodeOK
	no    = api.CodeNo
	fault = api.CodeError
	wait  = api.CodeWait
	skip  = api.CodeSkip
)

// The chapter's example.
func TestExample(t *testing.T) {
	f := frameOf(t, saying("a"), saying("b", yes, yes, no), saying("c"))
	code, e := f.Run(3)
	same(t, "Run(3)", []int{code, int(e)}, []int{no, 0})
	same(t, "Calls", f.Calls(), []string{"a:3", "b:3", "b:5", "a:5"})
}

// 17.1: a point that there is not is refused, by all kinds of frames, and nothing is noted.
func TestRunOfNoPoint(t *testing.T) {
	skipping := frameOf(t, saying("a", skip), saying("b", no))
	skipping.Run(frame.Before)
	for _, f := range []*frame.Frame{frameOf(t), frameOf(t, many(3)...), frameOf(t, at(frame.Permit, wait, no)...), skipping} {
		was := look(f)
		for _, point := range noPoints() {
			code, e := f.Run(point)
			same(t, fmt.Sprintf("Run(%d)", point), []int{code, int(e)}, []int{0, int(api.ErrArg)})
			sameLook(t, fmt.Sprintf("behind Run(%d)", point), look(f), was)
		}
	}
}

// 17.1: what each code comes to at each point, with a plugin behind it.
func TestEachCode(t *testing.T) {
	for _, c := range []struct {
		point, code, end int
		calls            []string
	}{
		{frame.Before, yes, yes, []string{"a:1", "b:1"}},
		{frame.Before, skip, yes, []string{"a:1", "b:1"}},
		{frame.Before, no, no, []string{"a:1"}},
		{frame.Before, fault, fault, []string{"a:1"}},
		{frame.Before, wait, fault, []string{"a:1"}},
		{frame.Filter, yes, yes, []string{"a:2", "b:2"}},
		{frame.Filter, skip, yes, []string{"a:2", "b:2"}},
		{frame.Filter, no, no, []string{"a:2"}},
		{frame.Filter, fault, fault, []string{"a:2"}},
		{frame.Filter, wait, fault, []string{"a:2"}},
		{frame.Reserve, yes, yes, []string{"a:3", "b:3"}},
		{frame.Reserve, skip, yes, []string{"a:3", "b:3"}},
		{frame.Reserve, no, no, []string{"a:3", "a:5"}},
		{frame.Reserve, fault, fault, []string{"a:3", "a:5"}},
		{frame.Reserve, wait, fault, []string{"a:3", "a:5"}},
		{frame.Permit, yes, yes, []string{"a:4", "b:4"}},
		{frame.Permit, skip, yes, []string{"a:4", "b:4"}},
		{frame.Permit, no, no, []string{"a:4"}},
		{frame.Permit, fault, fault, []string{"a:4"}},
		{frame.Permit, wait, wait, []string{"a:4", "b:4"}},
	} {
		f := frameOf(t, at(c.point, c.code, yes)...)
		runIs(t, fmt.Sprint("code ", c.code, " ahead"), f, c.point, c.end, c.calls...)
		runIs(t, fmt.Sprint("code ", c.code, " ahead, once more"), f, c.point, c.end, c.calls...)
	}
}

// 17.1: Reserve may end at each of its plugins, or at none; those up to and with that one are given back.
func TestReserve(t *testing.T) {
	for _, c := range []struct {
		codes []int
		end   int
		calls []string
	}{
		{[]int{yes, yes, yes}, yes, []string{"a:3", "b:3", "c:3"}},
		{[]int{skip, yes, skip}, yes, []string{"a:3", "b:3", "c:3"}},
		{[]int{no, yes, yes}, no, []string{"a:3", "a:5"}},
		{[]int{wait, no, no}, fault, []string{"a:3", "a:5"}},
		{[]int{yes, fault, no}, fault, []string{"a:3", "b:3", "b:5", "a:5"}},
		{[]int{skip, wait, yes}, fault, []string{"a:3", "b:3", "b:5", "a:5"}},
		{[]int{skip, skip, no}, no, []string{"a:3", "b:3", "c:3", "c:5", "b:5", "a:5"}},
		{[]int{yes, skip, wait}, fault, []string{"a:3", "b:3", "c:3", "c:5", "b:5", "a:5"}},
		{[]int{no}, no, []string{"a:3", "a:5"}},
		{[]int{wait}, fault, []string{"a:3", "a:5"}},
		{[]int{yes}, yes, []string{"a:3"}},
	} {
		runIs(t, fmt.Sprint(c.codes), frameOf(t, at(frame.Reserve, c.codes...)...), frame.Reserve, c.end, c.calls...)
	}
}

// 17.1: who waits at Permit ends nothing, but a No or an Error does, ahead of it or behind.
func TestPermit(t *testing.T) {
	for _, c := range []struct {
		codes []int
		end   int
		calls []string
	}{
		{[]int{yes, yes, yes}, yes, []string{"a:4", "b:4", "c:4"}},
		{[]int{wait, yes, yes}, wait, []string{"a:4", "b:4", "c:4"}},
		{[]int{yes, wait, skip}, wait, []string{"a:4", "b:4", "c:4"}},
		{[]int{yes, skip, wait}, wait, []string{"a:4", "b:4", "c:4"}},
		{[]int{wait, wait, yes}, wait, []string{"a:4", "b:4", "c:4"}},
		{[]int{wait, wait, wait}, wait, []string{"a:4", "b:4", "c:4"}},
		{[]int{wait, no, yes}, no, []string{"a:4", "b:4"}},
		{[]int{wait, fault, no}, fault, []string{"a:4", "b:4"}},
		{[]int{wait, wait, no}, no, []string{"a:4", "b:4", "c:4"}},
		{[]int{wait, skip, fault}, fault, []string{"a:4", "b:4", "c:4"}},
		{[]int{no, wait, wait}, no, []string{"a:4"}},
		{[]int{fault, wait, no}, fault, []string{"a:4"}},
		{[]int{yes, no, wait}, no, []string{"a:4", "b:4"}},
		{[]int{wait}, wait, []string{"a:4"}},
	} {
		f := frameOf(t, at(frame.Permit, c.codes...)...)
		runIs(t, fmt.Sprint(c.codes), f, frame.Permit, c.end, c.calls...)
		runIs(t, fmt.Sprint(c.codes, " once more"), f, frame.Permit, c.end, c.calls...)
	}
}

// 17.1: Unreserve runs all in the reverse order, with a Reserve or without, whatever they say elsewhere.
func TestUnreserve(t *testing.T) {
	for _, code := range allCodes() {
		f := frameOf(t, saying("a", code, code, code, code), saying("b", code, code, code, code), saying("c", code, code, code, code))
		runIs(t, fmt.Sprint("code ", code), f, frame.Unreserve, yes, "c:5", "b:5", "a:5")
		runIs(t, fmt.Sprint("code ", code, " once more"), f, frame.Unreserve, yes, "c:5", "b:5", "a:5")
	}
	f := frameOf(t, at(frame.Reserve, yes, no, yes)...)
	runIs(t, "ended", f, frame.Reserve, no, "a:3", "b:3", "b:5", "a:5")
	runIs(t, "behind a Reserve that ended", f, frame.Unreserve, yes, "c:5", "b:5", "a:5")
	f = frameOf(t, at(frame.Reserve, yes, yes)...)
	runIs(t, "on", f, frame.Reserve, yes, "a:3", "b:3")
	runIs(t, "behind a Reserve that went on", f, frame.Unreserve, yes, "b:5", "a:5")
	runIs(t, "one plugin", frameOf(t, saying("a")), frame.Unreserve, yes, "a:5")
}

// 17.1: who skips is not asked to filter, in later runs too, till Reset.
func TestSkip(t *testing.T) {
	f := frameOf(t, saying("a"), saying("b", skip, no), saying("c"), saying("d", skip, fault))
	runIs(t, "nobody skips", f, frame.Filter, no, "a:2", "b:2")
	runIs(t, "two skip", f, frame.Before, yes, "a:1", "b:1", "c:1", "d:1")
	for range 3 {
		runIs(t, "without the two", f, frame.Filter, yes, "a:2", "c:2")
	}
	runIs(t, "they reserve", f, frame.Reserve, yes, "a:3", "b:3", "c:3", "d:3")
	runIs(t, "they permit", f, frame.Permit, yes, "a:4", "b:4", "c:4", "d:4")
	runIs(t, "they are unreserved", f, frame.Unreserve, yes, "d:5", "c:5", "b:5", "a:5")
	runIs(t, "still without", f, frame.Filter, yes, "a:2", "c:2")
	runIs(t, "they are asked ahead again", f, frame.Before, yes, "a:1", "b:1", "c:1", "d:1")
	runIs(t, "still without", f, frame.Filter, yes, "a:2", "c:2")
	f.Reset()
	runIs(t, "nobody skips", f, frame.Filter, no, "a:2", "b:2")
	runIs(t, "two skip", f, frame.Before, yes, "a:1", "b:1", "c:1", "d:1")
	runIs(t, "without the two again", f, frame.Filter, yes, "a:2", "c:2")
}

// 17.1: all skip, so that nobody is asked.
func TestAllSkip(t *testing.T) {
	f := frameOf(t, saying("a", skip, no), saying("b", skip, fault), saying("c", skip, wait))
	runIs(t, "all skip", f, frame.Before, yes, "a:1", "b:1", "c:1")
	runIs(t, "nobody is asked", f, frame.Filter, yes)
	same(t, "calls", f.Calls(), []string{"a:1", "b:1", "c:1"})
}

// 17.1: a Before that ends: those ahead that skipped do, those behind that would skip do not, as they were not called.
func TestBeforeThatEnds(t *testing.T) {
	for _, c := range []struct{ code, end int }{{no, no}, {fault, fault}, {wait, fault}} {
		f := frameOf(t, saying("a", skip), saying("b", c.code), saying("c", skip), saying("d", skip))
		runIs(t, "it ends", f, frame.Before, c.end, "a:1", "b:1")
		runIs(t, "a skips alone", f, frame.Filter, yes, "b:2", "c:2", "d:2")
		f = frameOf(t, saying("a", c.code), saying("b", skip, no))
		runIs(t, "it ends at once", f, frame.Before, c.end, "a:1")
		runIs(t, "nobody skips", f, frame.Filter, no, "a:2", "b:2")
	}
}

// 17.1: CodeSkip at another point than Before lets nobody skip.
func TestSkipElsewhere(t *testing.T) {
	for _, point := range codePoints()[1:] {
		p := saying("a")
		say(&p, point, skip)
		f := frameOf(t, p, saying("b"))
		f.Run(point)
		runIs(t, fmt.Sprint("skip at ", point), f, frame.Filter, yes, "a:2", "b:2")
	}
	f := frameOf(t, at(frame.Filter, skip, skip, no)...)
	for range 2 {
		runIs(t, "skip at Filter", f, frame.Filter, no, "a:2", "b:2", "c:2")
	}
}

// 17.1: each list of three codes at each point, held against the words; the codes of other points count for nothing there.
func TestEachThreeCodes(t *testing.T) {
	for n := range 5 * 5 * 5 * 5 {
		other := n / 125
		for _, point := range codePoints() {
			var l []api.Plugin
			for k, code := range []int{n % 5, n / 5 % 5, n / 25 % 5} {
				p := saying(string(rune('a'+k)), other, other, other, other)
				say(&p, point, code)
				l = append(l, p)
			}
			f, m := frameOf(t, l...), modelOf(l)
			code, _ := f.Run(point)
			want, _ := m.Run(point)
			what := fmt.Sprintf("number %d at point %d", n, point)
			same(t, what, code, want)
			sameLook(t, what, look(f), lookAtModel(m))
		}
	}
}
