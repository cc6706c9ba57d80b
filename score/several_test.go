package score_test

import (
	"math"
	"math/rand"
	"slices"
	"testing"

	"stevedore/api"
	"stevedore/score"
)

// Promise 16.1: Calm.

func TestCalmNamedEdges(t *testing.T) {
	gpu := api.Taint{Key: "gpu", Value: "yes", Effect: api.EffectShy}
	old := api.Taint{Key: "old", Effect: api.EffectShy}
	keep := api.Taint{Key: "gpu", Value: "yes", Effect: api.EffectKeep}
	three := []api.Info{shying(gpu, old), shying(gpu), shying()}
	for _, c := range []struct {
		what  string
		bears []api.Bear
		l     []api.Info
		want  []int
	}{
		{"no infos", nil, nil, nil},
		{"an empty list", nil, []api.Info{}, nil},
		{"one info, nothing to shy at", nil, []api.Info{shying()}, []int{100}},
		{"one info, one taint", nil, []api.Info{shying(gpu)}, []int{0}},
		{"one info, many taints", nil, []api.Info{shying(shy(30)...)}, []int{0}},
		{"the first test's numbers", nil, []api.Info{shying(shy(1)...), shying(shy(4)...), shying(shy(2)...)}, []int{75, 0, 50}},
		{"two, one, none", nil, three, []int{0, 50, 100}},
		{"rounded down ahead of being reversed", nil, []api.Info{shying(shy(1)...), shying(shy(2)...), shying(shy(3)...)}, []int{67, 34, 0}},
		{"the most taints twice", nil, []api.Info{shying(shy(2)...), shying(shy(2)...), shying(shy(1)...)}, []int{0, 0, 50}},

		{"it bears one", []api.Bear{{Key: "gpu", Value: "yes"}}, three, []int{0, 100, 100}},
		{"it bears the other one", []api.Bear{{Key: "old", Any: true}}, three, []int{0, 0, 100}},
		{"it bears one by its effect", []api.Bear{{Key: "gpu", Value: "yes", Effect: api.EffectShy}}, three, []int{0, 100, 100}},
		{"it bears another effect", []api.Bear{{Key: "gpu", Value: "yes", Effect: api.EffectKeep}}, three, []int{0, 50, 100}},
		{"it bears another value", []api.Bear{{Key: "gpu", Value: "no"}}, three, []int{0, 50, 100}},
		{"it bears both", []api.Bear{{Key: "old"}, {Key: "gpu", Any: true}}, three, []int{100, 100, 100}},
		{"it bears all", []api.Bear{{Any: true}}, three, []int{100, 100, 100}},

		{"taints that keep off are nothing to shy at", nil, []api.Info{shying(keep), shying()}, []int{100, 100}},
		{"taints that keep off beside others", nil, []api.Info{shying(keep, gpu), shying(gpu, old)}, []int{50, 0}},
		{"effects that there are not", nil, []api.Info{shying(api.Taint{Key: "a"}, api.Taint{Key: "b", Effect: 7}, api.Taint{Key: "c", Effect: -1}), shying()}, []int{100, 100}},
		{"a taint that stands twice", nil, []api.Info{shying(gpu, gpu), shying(gpu)}, []int{0, 50}},
		{"more taints than an object may have", nil, []api.Info{shying(shy(400)...), shying(shy(100)...)}, []int{0, 75}},
	} {
		p := api.Pod{Name: "p", Bears: c.bears}
		holdsAll(t, c.what, score.Calm(p, c.l), c.want)
	}
}

// Promise 16.1: Liked.

func TestLikedNamedEdges(t *testing.T) {
	a, b, ab, none := labelled("a", "1"), labelled("b", "1"), labelled("a", "1", "b", "2"), labelled()
	all := []api.Info{a, b, ab, none}
	isA := []api.Req{{Key: "a", Op: api.OpExists}}
	both := []api.Req{{Key: "a", Op: api.OpExists}, {Key: "b", Op: api.OpIn, Values: []string{"2"}}}
	for _, c := range []struct {
		what    string
		prefers []api.Prefer
		l       []api.Info
		want    []int
	}{
		{"no infos", []api.Prefer{likes(1, "a")}, nil, nil},
		{"an empty list", []api.Prefer{likes(1, "a")}, []api.Info{}, nil},
		{"no Prefers", nil, all, []int{0, 0, 0, 0}},
		{"no Prefers, an empty list", []api.Prefer{}, all, []int{0, 0, 0, 0}},
		{"one info, liked", []api.Prefer{likes(3, "a")}, []api.Info{a}, []int{100}},
		{"one info, not liked", []api.Prefer{likes(3, "a")}, []api.Info{b}, []int{0}},
		{"met by some", []api.Prefer{likes(5, "a")}, all, []int{100, 0, 100, 0}},
		{"met by all", []api.Prefer{{Weight: 5, Reqs: []api.Req{{Key: "c", Op: api.OpLacks}}}}, all, []int{100, 100, 100, 100}},
		{"met by none", []api.Prefer{likes(5, "c")}, all, []int{0, 0, 0, 0}},
		{"met by one", []api.Prefer{{Weight: 5, Reqs: both}}, all, []int{0, 0, 100, 0}},
		{"what asks nothing is met by all", []api.Prefer{{Weight: 2}}, all, []int{100, 100, 100, 100}},
		{"what asks nothing, beside others", []api.Prefer{{Weight: 2, Reqs: []api.Req{}}, likes(2, "a")}, all, []int{100, 50, 100, 50}},
		{"several that are met are added", []api.Prefer{likes(1, "a"), likes(2, "b"), {Weight: 4, Reqs: both}}, all, []int{14, 28, 100, 0}},
		{"one that stands twice counts twice", []api.Prefer{likes(1, "a"), likes(1, "a"), likes(1, "b")}, []api.Info{a, b}, []int{100, 50}},
		{"all that is asked must be met", []api.Prefer{{Weight: 1, Reqs: both}}, []api.Info{a, labelled("a", "1", "b", "3"), ab}, []int{0, 0, 100}},
		{"an Op that there is not is not met", []api.Prefer{{Weight: 9, Reqs: []api.Req{{Key: "a", Op: 7}}}, {Weight: 9, Reqs: []api.Req{{Key: "a"}}}}, all, []int{0, 0, 0, 0}},
		{"a value above one", []api.Prefer{{Weight: 1, Reqs: []api.Req{{Key: "b", Op: api.OpAbove, Values: []string{"1"}}}}}, all, []int{0, 0, 100, 0}},
		{"of a key that stands twice the first one counts", []api.Prefer{{Weight: 1, Reqs: []api.Req{{Key: "a", Op: api.OpIn, Values: []string{"1"}}}}}, []api.Info{labelled("a", "1", "a", "2"), labelled("a", "2", "a", "1")}, []int{100, 0}},

		{"a weight of 0", []api.Prefer{likes(0, "a")}, all, []int{0, 0, 0, 0}},
		{"a weight of 0 beside others", []api.Prefer{likes(0, "a"), likes(1, "b")}, all, []int{0, 100, 100, 0}},
		{"a weight below 0", []api.Prefer{likes(-5, "a")}, all, []int{0, 0, 0, 0}},
		{"a weight below 0 takes nothing off", []api.Prefer{likes(-5, "a"), likes(10, "b")}, all, []int{0, 100, 100, 0}},
		{"the smallest weight", []api.Prefer{likes(math.MinInt, "a"), likes(math.MinInt, "a"), likes(1, "b")}, all, []int{0, 100, 100, 0}},
		{"a weight of 1 << 30", []api.Prefer{likes(liking, "a"), likes(liking/4, "b")}, []api.Info{a, b, ab}, []int{80, 20, 100}},
		{"a weight just below 1 << 30", []api.Prefer{likes(liking, "a"), likes(liking-1, "b")}, []api.Info{a, b}, []int{100, 99}},
		{"a weight just above 1 << 30", []api.Prefer{likes(liking+1, "a"), likes(liking, "b")}, []api.Info{a, b}, []int{100, 100}},
		{"a weight far above 1 << 30", []api.Prefer{likes(math.MaxInt, "a"), likes(liking/2, "b")}, []api.Info{a, b, ab}, []int{66, 33, 100}},
		{"great weights do not wrap", []api.Prefer{likes(math.MaxInt, "a"), likes(math.MaxInt, "a"), likes(math.MaxInt, "b")}, []api.Info{a, b, ab}, []int{66, 33, 100}},
		{"the pod's own Asks do not count", []api.Prefer{{Weight: 1, Reqs: isA}}, []api.Info{a, b}, []int{100, 0}},
	} {
		p := preferring(c.prefers...)
		p.Asks = []api.Req{{Key: "b", Op: api.OpExists}}
		p.Labels = []api.Label{{Key: "b", Value: "1"}}
		holdsAll(t, c.what, score.Liked(p, c.l), c.want)
	}
}

// A sum above 1 << 40 counts as that, as each number that is made normal.
func TestLikedOfManyPrefers(t *testing.T) {
	var p api.Pod
	for k, key := range []string{"a", "b", "c"} {
		n := []int{3000, 1025, 512}[k]
		p.Prefers = append(p.Prefers, slices.Repeat([]api.Prefer{likes(math.MaxInt, key)}, n)...)
	}
	l := []api.Info{labelled("a", ""), labelled("b", ""), labelled("c", ""), labelled("d", "")}
	holdsAll(t, "above 1 << 40", score.Liked(p, l), []int{100, 100, 50, 0})
	holdsAll(t, "none above it", score.Liked(p, l[2:]), []int{100, 0})
}

func TestRandomCalmAndLiked(t *testing.T) {
	r := rand.New(rand.NewSource(164))
	calm, liked := map[int]int{}, map[int]int{}
	for range 10000 {
		p, l := randomPod(r, small()), randomInfos(r, r.Intn(6), small())
		a, b := score.Calm(p, l), score.Liked(p, l)
		if x, y := calmByWords(p, l), likedByWords(p, l); !slices.Equal(a, x) || !slices.Equal(b, y) {
			t.Fatalf("%+v %+v: %v %v, want %v %v", p, l, a, b, x, y)
		}
		for k := range l {
			calm[a[k]]++
			liked[b[k]]++
		}
	}
	if len(calm) < 8 || len(liked) < 15 {
		t.Errorf("drawn: %v, %v", calm, liked)
	}
}
