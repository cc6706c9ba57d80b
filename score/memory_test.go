package score_test

import (
	"math/rand"
	"reflect"
	"slices"
	"testing"

	"stevedore/api"
	"stevedore/score"
)

// spacious is p and l with room behind each list, in which something stands.
func spacious(p api.Pod, l []api.Info) (api.Pod, []api.Info) {
	p.Prefers = roomy(p.Prefers, api.Prefer{Weight: 9})
	for k := range p.Prefers {
		p.Prefers[k].Reqs = roomy(p.Prefers[k].Reqs, api.Req{Key: "behind"})
	}
	p.Bears = roomy(p.Bears, api.Bear{Any: true})
	l = roomy(l, labelled("behind", "1"))
	for k := range l {
		l[k].Node.Taints = roomy(l[k].Node.Taints, api.Taint{Key: "behind", Effect: api.EffectShy})
		l[k].Node.Labels = roomy(l[k].Node.Labels, api.Label{Key: "behind"})
		l[k].Names, l[k].Ports, l[k].Disks = roomy(l[k].Names, "behind"), roomy(l[k].Ports, -9), roomy(l[k].Disks, "behind")
	}
	return p, l
}

// all is each call's answer, of numbers that are handed in.
func all(p api.Pod, l []api.Info, numbers []int, may []bool) [][]int {
	out := [][]int{
		score.Calm(p, l), score.Liked(p, l), score.Total(p, l, [4]int{1, 2, 3, 4}),
		score.Normal(numbers, false), score.Normal(numbers, true), score.Best(numbers, may), {score.Pick(numbers, may, -5)},
	}
	for _, i := range l {
		out = append(out, []int{score.Least(p, i), score.Even(p, i)})
	}
	return out
}

// Rule 4: nothing that is handed in is changed, not even what stands behind a list's end, nor does that count.
func TestHandedInStays(t *testing.T) {
	r := rand.New(rand.NewSource(1681))
	for range 1000 {
		p, l := randomPod(r, amounts()), randomInfos(r, r.Intn(5), amounts())
		numbers, may := some(r, wide(), 5), some(r, []bool{false, true}, 5)
		plain := all(p, l, numbers, may)
		p, l = spacious(p, l)
		now := struct {
			P       api.Pod
			L       []api.Info
			Numbers []int
			May     []bool
		}{p, l, roomy(numbers, 8), roomy(may, true)}
		was := opened(now)
		if got := all(now.P, now.L, now.Numbers, now.May); !reflect.DeepEqual(got, plain) {
			t.Fatalf("with room: %v, without %v", got, plain)
		}
		if got := opened(now); !reflect.DeepEqual(got, was) {
			t.Fatalf("changed: %+v, was %+v", got, was)
		}
	}
}

// Rule 4: what is handed out is the caller's own: whatever is written into it, what was handed in and other answers stay.
func TestHandedOutIsOwn(t *testing.T) {
	r := rand.New(rand.NewSource(1682))
	for range 500 {
		p, l := spacious(randomPod(r, small()), randomInfos(r, 1+r.Intn(4), small()))
		numbers, may := roomy(some(r, wide(), 5), 3), roomy(some(r, []bool{false, true, true}, 5), true)
		wasNumbers, wasMay, wasInfos := opened(numbers), opened(may), opened(l)
		first, second := all(p, l, numbers, may), all(p, l, numbers, may)
		want := opened(second)
		for _, x := range first {
			x = x[:cap(x)]
			for k := range x {
				x[k] = -77
			}
		}
		if !reflect.DeepEqual(opened(second), want) || !reflect.DeepEqual(opened(all(p, l, numbers, may)), want) {
			t.Fatalf("written over: %v, want %v", second, want)
		}
		if !slices.Equal(opened(numbers), wasNumbers) || !slices.Equal(opened(may), wasMay) || !reflect.DeepEqual(opened(l), wasInfos) {
			t.Fatal("what was handed in was written over")
		}
	}
}

// P1: no call panics, and each ends, of many members, too.
func TestManyMembers(t *testing.T) {
	const many = 3000
	p := api.Pod{Prefers: make([]api.Prefer, 200), Bears: make([]api.Bear, 200)}
	for k := range p.Prefers {
		p.Prefers[k] = likes(1, "a")
	}
	l := slices.Repeat([]api.Info{labelled("a", "1")}, many)
	l[many-1].Node.Taints = shy(500)
	l[0].Node.Labels = nil
	calm, liked, total := score.Calm(p, l), score.Liked(p, l), score.Total(p, l, [4]int{1, 1, 1, 1})
	holdsAll(t, "the ends of Calm", []int{len(calm), calm[0], calm[1], calm[many-1]}, []int{many, 100, 100, 0})
	holdsAll(t, "the ends of Liked", []int{len(liked), liked[0], liked[1], liked[many-1]}, []int{many, 0, 100, 100})
	holdsAll(t, "the ends of Total", []int{len(total), total[0], total[1], total[many-1]}, []int{many, 200, 300, 200})
	best := score.Best(total, slices.Repeat([]bool{true}, many))
	holdsAll(t, "the ends of Best", []int{len(best), best[0], best[many-3]}, []int{many - 2, 1, many - 2})
	holds(t, "Pick", score.Pick(total, slices.Repeat([]bool{true}, many), many-2+7), 8)
}
