package score_test

import (
	"math"
	"math/rand"
	"slices"
	"testing"

	"stevedore/api"
	"stevedore/score"
)

// unlike is a pod and two infos on which each measure says something else: Least 62 and 80, Even 75 and 90, Calm 100 and 0, Liked 25 and 100.
func unlike() (api.Pod, []api.Info) {
	p := api.Pod{Name: "p", Want: two(1000, 1000), Prefers: []api.Prefer{likes(1, "a"), likes(3, "b")}}
	i := using(two(4000, 4000), two(1000, 0))
	i.Node.Labels = []api.Label{{Key: "a"}}
	j := using(two(10000, 10000), two(1500, 500))
	j.Node.Labels = []api.Label{{Key: "a"}, {Key: "b"}}
	j.Node.Taints = shy(2)
	return p, []api.Info{i, j}
}

// Promise 16.2.

func TestTotalOfEachMeasure(t *testing.T) {
	p, l := unlike()
	for _, c := range []struct {
		what string
		w    [4]int
		want []int
	}{
		{"Least", [4]int{1, 0, 0, 0}, []int{62, 80}},
		{"Even", [4]int{0, 1, 0, 0}, []int{75, 90}},
		{"Calm", [4]int{0, 0, 1, 0}, []int{100, 0}},
		{"Liked", [4]int{0, 0, 0, 1}, []int{25, 100}},
		{"all", [4]int{1, 1, 1, 1}, []int{262, 270}},
		{"each by its own weight", [4]int{2, 3, 5, 7}, []int{124 + 225 + 500 + 175, 160 + 270 + 0 + 700}},
		{"the weights in another order", [4]int{7, 5, 3, 2}, []int{434 + 375 + 300 + 50, 560 + 450 + 0 + 200}},

		{"weights of 0", [4]int{}, []int{0, 0}},
		{"weights below 0", [4]int{-1, -100, math.MinInt, -3}, []int{0, 0}},
		{"one below 0 takes nothing off", [4]int{1, -1, 0, math.MinInt}, []int{62, 80}},
		{"weights of MaxWeight", [4]int{api.MaxWeight, api.MaxWeight, api.MaxWeight, api.MaxWeight}, []int{26200, 27000}},
		{"just below MaxWeight", [4]int{api.MaxWeight - 1, 0, 0, 0}, []int{6138, 7920}},
		{"just above MaxWeight", [4]int{api.MaxWeight + 1, 0, 0, 0}, []int{6200, 8000}},
		{"far above MaxWeight", [4]int{0, math.MaxInt, 0, 0}, []int{7500, 9000}},
		{"all above MaxWeight", [4]int{101, 1000, 1 << 40, math.MaxInt}, []int{26200, 27000}},
		{"each weight beyond its bounds", [4]int{math.MaxInt, math.MinInt, math.MaxInt, math.MinInt}, []int{16200, 8000}},
	} {
		holdsAll(t, c.what, score.Total(p, l, c.w), c.want)
		holdsAll(t, c.what+", no infos", score.Total(p, nil, c.w), nil)
		holdsAll(t, c.what+", an empty list", score.Total(p, []api.Info{}, c.w), nil)
	}
}

func TestTotalOfOneInfo(t *testing.T) {
	p, l := unlike()
	holdsAll(t, "the first alone", score.Total(p, l[:1], [4]int{1, 1, 1, 1}), []int{62 + 75 + 100 + 100})
	holdsAll(t, "the second alone", score.Total(p, l[1:], [4]int{1, 1, 1, 1}), []int{80 + 90 + 0 + 100})
	holdsAll(t, "an info of nothing", score.Total(api.Pod{}, []api.Info{{}}, [4]int{1, 1, 1, 1}), []int{0 + 100 + 100 + 0})
}

// An info that stands twice has two places, alike.
func TestTotalOfTwins(t *testing.T) {
	p, l := unlike()
	l = append(l, l...)
	holdsAll(t, "twins", score.Total(p, l, [4]int{1, 1, 1, 1}), []int{262, 270, 262, 270})
}

// Total is made of the four measures as they are told one by one, and of the words.
func TestRandomTotal(t *testing.T) {
	r := rand.New(rand.NewSource(165))
	seen := map[int]int{}
	for k := range 10000 {
		from := small()
		if k%3 == 0 {
			from = amounts()
		}
		p, l, w := randomPod(r, from), randomInfos(r, r.Intn(5), from), randomWeights(r)
		got := score.Total(p, l, w)
		if want := totalByWords(p, l, w); !slices.Equal(got, want) {
			t.Fatalf("Total(%+v, %+v, %v): %v, want %v", p, l, w, got, want)
		}
		var weighed [4]int
		for at := range w {
			weighed[at] = min(max(w[at], 0), api.MaxWeight)
		}
		calm, liked := score.Calm(p, l), score.Liked(p, l)
		for at, i := range l {
			sum := score.Least(p, i)*weighed[0] + score.Even(p, i)*weighed[1] + calm[at]*weighed[2] + liked[at]*weighed[3]
			if got[at] != sum {
				t.Fatalf("Total(%+v, %+v, %v) at %d: %d, the measures come to %d", p, l, w, at, got[at], sum)
			}
			seen[sum]++
		}
	}
	if len(seen) < 500 {
		t.Errorf("drawn: %d", len(seen))
	}
}
