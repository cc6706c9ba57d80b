package frame_test

import (
	"fmt"
	"math"
	"strings"
	"testing"

	"stevedore/api"
	"stevedore/frame"
)

// 17.1: the points' numbers, and the error's.
func TestNumbers(t *testing.T) {
	same(t, "points", allPoints(), []int{1, 2, 3, 4, 5})
	same(t, "ErrPlugin", int(api.ErrPlugin), 170)
}

// 17.1: a frame of no plugins is a frame.
func TestNewOfNone(t *testing.T) {
	for _, f := range []*frame.Frame{frameOf(t), frameOf(t, nil...), frameOf(t, []api.Plugin{}...)} {
		sameLook(t, "no plugins", look(f), lookAtModel(modelOf(nil)))
		for _, point := range allPoints() {
			runIs(t, "no plugins", f, point, api.CodeOK)
		}
		same(t, "no plugins", []int{len(f.Calls()), len(f.Scores())}, []int{0, 0})
		f.Reset()
		sameLook(t, "no plugins, reset", look(f), lookAtModel(modelOf(nil)))
	}
}

// 17.1: a new frame has no calls, and nothing skips, whatever the plugins say.
func TestNew(t *testing.T) {
	l := []api.Plugin{saying("a", api.CodeSkip), saying("b", api.CodeSkip), saying("c")}
	f := frameOf(t, l...)
	same(t, "calls", f.Calls(), []string(nil))
	sameLook(t, "a new frame", look(f), lookAtModel(modelOf(l)))
	runIs(t, "a new frame", f, frame.Filter, api.CodeOK, "a:2", "b:2", "c:2")

	g := frameOf(t, l...)
	same(t, "another frame of the same list", g.Calls(), []string(nil))
	f.Run(frame.Before)
	runIs(t, "another frame of the same list", g, frame.Filter, api.CodeOK, "a:2", "b:2", "c:2")
}

// 17.1: as many as MaxItems plugins, and no more.
func TestNewOfMany(t *testing.T) {
	for _, n := range []int{1, 2, api.MaxItems - 1, api.MaxItems} {
		l := many(n)
		sameLook(t, fmt.Sprint(n, " plugins"), look(frameOf(t, l...)), lookAtModel(modelOf(l)))
	}
	for _, n := range []int{api.MaxItems + 1, api.MaxItems + 2, 2 * api.MaxItems, 10000} {
		refusedList(t, fmt.Sprint(n, " plugins"), many(n)...)
	}
}

// inEachPlace asks that a list of right plugins is refused with p in each of its places.
func inEachPlace(t *testing.T, what string, p api.Plugin) {
	t.Helper()
	for _, n := range []int{1, 2, 3, api.MaxItems} {
		for place := range n {
			l := many(n)
			for k := range l {
				l[k].Scores = make([]int, len(p.Scores))
			}
			l[place] = p
			refusedList(t, fmt.Sprintf("%s, plugin %d of %d", what, place, n), l...)
		}
	}
}

// 17.1: no name is empty.
func TestNewOfEmptyName(t *testing.T) {
	inEachPlace(t, "an empty name", api.Plugin{})
	inEachPlace(t, "an empty name", api.Plugin{Weight: 1, Scores: []int{1}})
	refusedList(t, "empty names", api.Plugin{}, api.Plugin{})
}

// 17.1: no name stands twice, wherever the two are.
func TestNewOfNameTwice(t *testing.T) {
	for _, n := range []int{2, 3, 5, api.MaxItems} {
		for a := range n {
			for b := range a {
				l := many(n)
				l[a].Name = l[b].Name
				l[a].Weight = 7 // it is the name that counts
				refusedList(t, fmt.Sprintf("plugins %d and %d of %d", b, a, n), l...)
			}
		}
	}
	refusedList(t, "thrice", many(1)[0], many(1)[0], many(1)[0])
}

// 17.1: names that are only much alike are names of their own; any text that is not empty is a name.
func TestNewOfNamesAlike(t *testing.T) {
	long := strings.Repeat("x", 70000)
	names := []string{"a", "A", "aa", "a ", " a", " ", "a:", "a:1", ":", "a\x00", "\x00", "\xff", "\xff\xfe", "\ufffd", "ä", "a\u0308", "1", "0", long, long + "y"}
	var l []api.Plugin
	var want []string
	for _, name := range names {
		l = append(l, api.Plugin{Name: name})
		want = append(want, name+":4")
	}
	f := frameOf(t, l...)
	runIs(t, "names", f, frame.Permit, api.CodeOK, want...)
}

// 17.1: codes from 0 to 4, at each point.
func TestNewOfCodes(t *testing.T) {
	for _, point := range codePoints() {
		for _, code := range allCodes() {
			p := api.Plugin{Name: "a"}
			say(&p, point, code)
			sameLook(t, fmt.Sprintf("%d at point %d", code, point), look(frameOf(t, p)), lookAtModel(modelOf([]api.Plugin{p})))
		}
		for _, code := range []int{-1, 5, 6, -4, math.MinInt, math.MaxInt, 1 << 32} {
			p := api.Plugin{Name: "a"}
			say(&p, point, code)
			inEachPlace(t, fmt.Sprintf("%d at point %d", code, point), p)
		}
	}
}

// 17.1: weights from 0 to MaxWeight.
func TestNewOfWeights(t *testing.T) {
	for _, weight := range []int{0, 1, api.MaxWeight - 1, api.MaxWeight} {
		f := frameOf(t, api.Plugin{Name: "a", Weight: weight, Scores: []int{1}})
		same(t, fmt.Sprint("weight ", weight), f.Scores(), []int{weight})
	}
	for _, weight := range []int{-1, api.MaxWeight + 1, -api.MaxWeight, math.MinInt, math.MaxInt, 1 << 32} {
		inEachPlace(t, fmt.Sprint("weight ", weight), api.Plugin{Name: "a", Weight: weight})
		inEachPlace(t, fmt.Sprint("weight ", weight), api.Plugin{Name: "a", Weight: weight, Scores: []int{1, 2}})
	}
}

// 17.1: scores from 0 to MaxScore, in each place of each plugin, also where the weight is 0.
func TestNewOfScores(t *testing.T) {
	for _, n := range []int{0, 1, api.MaxScore - 1, api.MaxScore} {
		f := frameOf(t, api.Plugin{Name: "a", Weight: 1, Scores: []int{n, 0, n}})
		same(t, fmt.Sprint("scores of ", n), f.Scores(), []int{n, 0, n})
	}
	for _, n := range []int{-1, api.MaxScore + 1, -api.MaxScore, math.MinInt, math.MaxInt, 1 << 32} {
		for _, weight := range []int{0, 1} {
			for place := range 3 {
				p := api.Plugin{Name: "a", Weight: weight, Scores: []int{1, 2, 3}}
				p.Scores[place] = n
				inEachPlace(t, fmt.Sprintf("a score of %d at %d", n, place), p)
			}
		}
	}
}

// 17.1: each plugin has as many scores as the others; none is as many as an empty list.
func TestNewOfUnlikeLengths(t *testing.T) {
	scored := func(lengths ...int) []api.Plugin {
		l := many(len(lengths))
		for k, n := range lengths {
			if n >= 0 {
				l[k].Scores = make([]int, n)
			}
		}
		return l
	}
	const none = -1
	for _, c := range [][]int{{0}, {1}, {9}, {0, 0}, {none, 0}, {0, none}, {none, none, 0, none}, {1, 1}, {3, 3, 3}, {1000, 1000}} {
		f := frameOf(t, scored(c...)...)
		same(t, fmt.Sprint("lengths ", c), len(f.Scores()), max(c[0], 0))
	}
	for _, c := range [][]int{{0, 1}, {1, 0}, {none, 1}, {1, none}, {1, 2}, {2, 1}, {2, 2, 1}, {2, 1, 2}, {1, 2, 2}, {0, 0, 1}, {none, none, 7}, {3, 3, 3, 4}, {1000, 999}, {2, 1, 3}} {
		refusedList(t, fmt.Sprint("lengths ", c), scored(c...)...)
	}
	l := scored(make([]int, api.MaxItems)...)
	l[api.MaxItems-1].Scores = []int{0}
	refusedList(t, "the last one of MaxItems", l...)
}

// 17.1: more than one thing that is wrong.
func TestNewOfSeveralWrongs(t *testing.T) {
	refusedList(t, "all wrong", api.Plugin{Before: -1, Filter: 9, Reserve: 5, Permit: -2, Weight: 101, Scores: []int{-1}}, api.Plugin{Weight: -1})
	l := many(api.MaxItems + 1)
	l[3].Name = ""
	l[9].Scores = []int{101}
	refusedList(t, "too many, and wrong", l...)
}
