package frame_test

import (
	"fmt"
	"math"
	"reflect"
	"slices"
	"strconv"
	"testing"

	"stevedore/api"
	"stevedore/frame"
)

// same holds two answers against each other (an empty list is as none).
func same(t *testing.T, what string, got, want any) {
	t.Helper()
	if reflect.DeepEqual(got, want) {
		return
	}
	if g, w := fmt.Sprintf("%+v", got), fmt.Sprintf("%+v", want); g != w {
		t.Errorf("%s: %s, want %s", what, g, w)
	}
}

func allPoints() []int {
	return []int{frame.Before, frame.Filter, frame.Reserve, frame.Permit, frame.Unreserve}
}

// codePoints is those of the points at which plugins say a code.
func codePoints() []int { return allPoints()[:4] }

// noPoints is numbers that are no point, those beside the first and the last one among them.
func noPoints() []int {
	return []int{0, 6, -1, 7, -5, 1<<32 + 1, math.MinInt, math.MinInt + 1, math.MaxInt}
}

func allCodes() []int {
	return []int{api.CodeOK, api.CodeNo, api.CodeError, api.CodeWait, api.CodeSkip}
}

// saying is a plugin that says those codes: at Before, Filter, Reserve and Permit.
func saying(name string, codes ...int) api.Plugin {
	p := api.Plugin{Name: name}
	for k, code := range codes {
		say(&p, k+1, code)
	}
	return p
}

// say lets a plugin say a code at a point.
func say(p *api.Plugin, point, code int) {
	switch point {
	case 1:
		p.Before = code
	case 2:
		p.Filter = code
	case 3:
		p.Reserve = code
	case 4:
		p.Permit = code
	}
}

// said is what a plugin says at a point.
func said(p api.Plugin, point int) int {
	return [...]int{0, p.Before, p.Filter, p.Reserve, p.Permit, 0}[point]
}

// at is plugins a, b, c .. that say those codes at the point, and something else that ends runs at all others.
func at(point int, codes ...int) []api.Plugin {
	var l []api.Plugin
	for k, code := range codes {
		p := saying(string(rune('a'+k)), api.CodeError, api.CodeError, api.CodeError, api.CodeError)
		say(&p, point, code)
		l = append(l, p)
	}
	return l
}

// many is n plugins with names of their own.
func many(n int) []api.Plugin {
	var l []api.Plugin
	for k := range n {
		l = append(l, api.Plugin{Name: "p" + strconv.Itoa(k)})
	}
	return l
}

// copies is a list of plugins that shares nothing with l.
func copies(l []api.Plugin) []api.Plugin {
	out := slices.Clone(l)
	for k := range out {
		out[k].Scores = slices.Clone(out[k].Scores)
	}
	return out
}

// frameOf is a frame of those plugins.
func frameOf(t *testing.T, l ...api.Plugin) *frame.Frame {
	t.Helper()
	f, e := frame.New(l...)
	if e != api.OK || f == nil {
		t.Fatalf("New(%+v): %v, %d", l, f, int(e))
	}
	return f
}

// refusedList asks that New takes no such list.
func refusedList(t *testing.T, what string, l ...api.Plugin) {
	t.Helper()
	if f, e := frame.New(l...); f != nil || e != api.ErrPlugin {
		t.Errorf("%s: %v, %d, want none, 170", what, f, int(e))
	}
}

// runIs runs a point, asks for the code with which it ends, and for the calls that it noted.
func runIs(t *testing.T, what string, f *frame.Frame, point, want int, calls ...string) {
	t.Helper()
	was := len(f.Calls())
	code, e := f.Run(point)
	same(t, fmt.Sprintf("%s: Run(%d)", what, point), []int{code, int(e)}, []int{want, 0})
	if now := f.Calls(); len(now) < was {
		t.Errorf("%s: Run(%d): calls are gone: %v", what, point, now)
	} else {
		same(t, fmt.Sprintf("%s: calls of Run(%d)", what, point), now[was:], calls)
	}
}

// told is all that calls can tell of a frame.
type told struct {
	scores []int
	calls  []string
	runs   map[int]outcome
	reset  *told
}

// outcome is what a run of a point comes to, and what is told behind it.
type outcome struct {
	code  int
	e     api.Errno
	calls []string
}

// look is what calls can tell of a frame; what would change it is asked of clones.
func look(f *frame.Frame) told {
	x := glance(f)
	c := f.Clone()
	c.Reset()
	r := glance(c)
	x.reset = &r
	return x
}

// glance is what look tells, but for what is told behind a Reset.
func glance(f *frame.Frame) told {
	x := told{scores: f.Scores(), calls: f.Calls(), runs: map[int]outcome{}}
	for _, point := range append(allPoints(), noPoints()...) {
		c := f.Clone()
		code, e := c.Run(point)
		x.runs[point] = outcome{code, e, c.Calls()}
	}
	return x
}

// sameLook asks that calls tell of a frame what they told of another one.
func sameLook(t *testing.T, what string, got, want told) {
	t.Helper()
	same(t, what+": scores", got.scores, want.scores)
	same(t, what+": calls", got.calls, want.calls)
	same(t, what+": runs", got.runs, want.runs)
	if got.reset != nil && want.reset != nil {
		sameLook(t, what+": behind Reset", *got.reset, *want.reset)
	}
}
