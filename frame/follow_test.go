package frame_test

import (
	"fmt"
	"math/rand"
	"slices"
	"strings"
	"testing"

	"stevedore/api"
	"stevedore/frame"
)

// randomPlugins is up to five plugins with codes of which most let a run go on, so that it comes far.
func randomPlugins(r *rand.Rand) []api.Plugin {
	codes := []int{yes, yes, yes, skip, skip, wait, no, fault}
	n := r.Intn(4)
	var l []api.Plugin
	for _, k := range r.Perm(5)[:r.Intn(6)] {
		p := saying(fmt.Sprint("p", k))
		for _, point := range codePoints() {
			say(&p, point, codes[r.Intn(len(codes))])
		}
		p.Weight = r.Intn(api.MaxWeight + 1)
		for range n {
			p.Scores = append(p.Scores, r.Intn(api.MaxScore+1))
		}
		l = append(l, p)
	}
	return l
}

// 17.1, 17.2: random lists and random calls, held against the words.
func TestRandomCalls(t *testing.T) {
	r := rand.New(rand.NewSource(17))
	for round := range 1500 {
		l := randomPlugins(r)
		f, m := frameOf(t, l...), modelOf(l)
		for step := range 12 {
			what := fmt.Sprintf("round %d, step %d", round, step)
			switch n := r.Intn(10); n {
			case 0:
				f.Reset()
				m.Reset()
			case 1:
				f, m = f.Clone(), m.Clone()
			default:
				point := r.Intn(8) - 1
				code, e := f.Run(point)
				want, we := m.Run(point)
				same(t, what, []int{code, int(e)}, []int{want, int(we)})
			}
			sameLook(t, what, look(f), lookAtModel(m))
		}
		if t.Failed() {
			return
		}
	}
}

// oneRun is a random frame, in which Before ran or did not, and what one run of a point came to there.
type oneRun struct {
	plugins []api.Plugin
	skips   bool // those that say so at Before skip
	point   int
	code    int
	calls   []string
}

func (x oneRun) String() string {
	return fmt.Sprintf("%+v, skips %t, Run(%d): %d, %v", x.plugins, x.skips, x.point, x.code, x.calls)
}

// someRuns does what is asked with many runs of random frames.
func someRuns(t *testing.T, seed int64, ask func(x oneRun)) {
	t.Helper()
	r := rand.New(rand.NewSource(seed))
	for range 20000 {
		x := oneRun{plugins: randomPlugins(r), skips: r.Intn(2) == 0, point: 1 + r.Intn(5)}
		f := frameOf(t, x.plugins...)
		if x.skips {
			for k := range x.plugins { // nobody ends Before, so that all are asked there
				if x.plugins[k].Before != skip {
					x.plugins[k].Before = yes
				}
			}
			f = frameOf(t, x.plugins...)
			f.Run(frame.Before)
		}
		was := len(f.Calls())
		x.code, _ = f.Run(x.point)
		x.calls = f.Calls()[was:]
		ask(x)
		if t.Failed() {
			return
		}
	}
}

// names is whom the run called at a point, in order.
func (x oneRun) names(point int) []string {
	var l []string
	for _, c := range x.calls {
		if name, ok := strings.CutSuffix(c, fmt.Sprint(":", point)); ok {
			l = append(l, name)
		}
	}
	return l
}

// asked is whom a run of the point calls that nobody ends, in order.
func (x oneRun) asked() []string {
	var l []string
	for _, p := range x.plugins {
		if !(x.point == frame.Filter && x.skips && p.Before == skip) {
			l = append(l, p.Name)
		}
	}
	return l
}

// 17.3: a run that ends with CodeOK called each plugin once, but for those that skip at Filter.
func TestCallsEachOnce(t *testing.T) {
	all := 0
	someRuns(t, 173, func(x oneRun) {
		if x.code != api.CodeOK {
			return
		}
		want := x.asked()
		if x.point == frame.Unreserve {
			slices.Reverse(want)
		}
		same(t, x.String(), x.names(x.point), want)
		same(t, x.String(), len(x.calls), len(want))
		all++
	})
	if all < 1000 {
		t.Errorf("%d runs went on to the end", all)
	}
}

// 17.4: behind a Reserve that ended otherwise just those that were called are unreserved, in the reverse order; behind another run nobody is.
func TestGivenBack(t *testing.T) {
	ended := 0
	someRuns(t, 174, func(x oneRun) {
		if x.point == frame.Unreserve {
			return
		}
		var want []string
		if x.point == frame.Reserve && x.code != api.CodeOK {
			want = x.names(frame.Reserve)
			slices.Reverse(want)
			ended++
		}
		same(t, x.String(), x.names(frame.Unreserve), want)
		same(t, x.String(), len(x.calls), len(x.names(x.point))+len(want))
	})
	if ended < 500 {
		t.Errorf("%d Reserves ended otherwise", ended)
	}
}

// 17.5: plugins behind the one that ended a run are not called: of those that are asked just the first ones, up to and with the first one that ends it.
func TestNobodyBehindTheEnd(t *testing.T) {
	ended := 0
	someRuns(t, 175, func(x oneRun) {
		if x.code != api.CodeNo && x.code != api.CodeError {
			return
		}
		called := x.names(x.point)
		if len(called) == 0 {
			t.Errorf("%s: nobody ended it", x)
			return
		}
		same(t, x.String(), called, x.asked()[:len(called)])
		for _, p := range x.plugins {
			k := slices.Index(called, p.Name)
			ends := said(p, x.point) == no || said(p, x.point) == fault || said(p, x.point) == wait && x.point != frame.Permit
			if k >= 0 && ends != (k == len(called)-1) {
				t.Errorf("%s: %s", x, p.Name)
			}
		}
		ended++
	})
	if ended < 1000 {
		t.Errorf("%d runs ended", ended)
	}
}
