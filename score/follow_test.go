package score_test

import (
	"math"
	"math/rand"
	"slices"
	"testing"

	"stevedore/api"
	"stevedore/info"
	"stevedore/score"
)

// within asks for numbers from 0 to hi.
func within(t *testing.T, what string, l []int, hi int) {
	t.Helper()
	for _, n := range l {
		if n < 0 || n > hi {
			t.Fatalf("%s: %v, beyond 0 to %d", what, l, hi)
		}
	}
}

// 16.4: each measure lies from 0 to 100, Total from 0 to 100 times the weights.
func TestBounds(t *testing.T) {
	r := rand.New(rand.NewSource(1640))
	ends := map[int]int{}
	for range 20000 {
		p, l, w := randomPod(r, amounts()), randomInfos(r, 1+r.Intn(4), amounts()), randomWeights(r)
		for _, i := range l {
			both := []int{score.Least(p, i), score.Even(p, i)}
			within(t, "Least, Even", both, 100)
			ends[both[0]]++
			ends[both[1]]++
		}
		within(t, "Calm", score.Calm(p, l), 100)
		within(t, "Liked", score.Liked(p, l), 100)
		within(t, "Normal", score.Normal(some(r, wide(), 5), r.Intn(2) == 0), 100)
		weighed := 0
		for _, x := range w {
			weighed += min(max(x, 0), api.MaxWeight)
		}
		within(t, "Total", score.Total(p, l, w), 100*weighed)
	}
	if ends[0] < 100 || ends[100] < 100 {
		t.Errorf("drawn: %v", ends)
	}
}

// 16.4: both ends of Total are reached.
func TestTotalAtItsEnds(t *testing.T) {
	all := [4]int{api.MaxWeight, api.MaxWeight, api.MaxWeight, api.MaxWeight}
	p := preferring(likes(1, "a"))
	best := labelled("a", "")
	best.Node.Give = two(1, 1)
	worst := using(two(1, 0), two(1, 0))
	worst.Node.Taints = shy(1)
	holdsAll(t, "the ends", score.Total(p, []api.Info{best, worst}, all), []int{40000, 0})
}

// 16.5: each of the best is picked by some draw below their number, and no draw picks another one.
func TestPickReachesAllOfTheBest(t *testing.T) {
	r := rand.New(rand.NewSource(1650))
	some := 0
	for range 10000 {
		scores, may := randomScores(r)
		best := score.Best(scores, may)
		var picked []int
		for draw := range best {
			picked = append(picked, score.Pick(scores, may, draw))
		}
		slices.Sort(picked)
		if !slices.Equal(picked, best) {
			t.Fatalf("%v %v: picked %v of %v", scores, may, picked, best)
		}
		if len(best) > 1 {
			some++
		}
		for _, draw := range draws(r) {
			k := score.Pick(scores, may, draw)
			if k < 0 {
				if slices.Contains(may[:min(len(may), len(scores))], true) {
					t.Fatalf("Pick(%v, %v, %d): %d", scores, may, draw, k)
				}
				continue
			}
			if !may[k] {
				t.Fatalf("Pick(%v, %v, %d): %d may not", scores, may, draw, k)
			}
			for j, s := range scores {
				if j < len(may) && may[j] && s > scores[k] {
					t.Fatalf("Pick(%v, %v, %d): %d, but %d is better", scores, may, draw, k, j)
				}
			}
		}
	}
	if some < 1000 {
		t.Errorf("drawn: %d", some)
	}
}

// 16.6: more used is never better by Least, along all amounts.
func TestMoreUsedAlongAmounts(t *testing.T) {
	rising := append(amounts(), small()...)
	slices.Sort(rising)
	for _, give := range amounts() {
		for _, want := range amounts() {
			cpu, mem := math.MaxInt, math.MaxInt
			for _, used := range rising {
				a := score.Least(wanting(two(want, 1)), using(two(give, 8), two(used, 3)))
				b := score.Least(wanting(two(1, want)), using(two(8, give), two(3, used)))
				if a > cpu || b > mem {
					t.Fatalf("%d given, %d wanted, %d used: %d after %d, %d after %d", give, want, used, a, cpu, b, mem)
				}
				cpu, mem = a, b
			}
		}
	}
}

// 16.6: random pods and infos, with more used of some, and with one more pod that stands there.
func TestMoreUsedIsNeverBetter(t *testing.T) {
	r := rand.New(rand.NewSource(1660))
	worse := 0
	for range 20000 {
		from := oneOf(r, [][]int{small(), amounts()})
		p, i := randomPod(r, from), randomInfo(r, from)
		was := score.Least(p, i)
		more := i
		if r.Intn(2) == 0 {
			more.Used.CPU = max(more.Used.CPU, oneOf(r, from))
			more.Used.Mem = max(more.Used.Mem, oneOf(r, from))
		} else {
			more, _ = info.Add(i, api.Pod{Name: "one more", Want: randomRes(r, from)})
		}
		is := score.Least(p, more)
		if is > was {
			t.Fatalf("%+v %+v: %d, was %d with %+v used", p, more, is, was, i.Used)
		}
		if is < was {
			worse++
		}
	}
	if worse < 1000 {
		t.Errorf("drawn: %d", worse)
	}
}

// 16.7: Least and Even of an info are the same whatever other infos stand beside it.
func TestLeastAndEvenHangOnNoOtherNode(t *testing.T) {
	r := rand.New(rand.NewSource(1670))
	for range 5000 {
		p, l := randomPod(r, small()), randomInfos(r, 1+r.Intn(5), small())
		for k, n := range score.Total(p, l, [4]int{1, 1, 0, 0}) {
			if alone := totalOf(p, l[k]); n != alone || n != score.Least(p, l[k])+score.Even(p, l[k]) {
				t.Fatalf("%+v %+v: %d at %d, alone %d", p, l, n, k, alone)
			}
		}
	}
}

// 16.7: of other nodes nothing but the greatest number counts: while that stays, all others may come, go and change.
func TestCalmAndLikedHangOnTheGreatestAlone(t *testing.T) {
	r := rand.New(rand.NewSource(1671))
	for range 5000 {
		p, l := randomPod(r, small()), randomInfos(r, 2+r.Intn(5), small())
		calm, liked := score.Calm(p, l), score.Liked(p, l)
		// Who has 0 of Calm, or 100 of Liked, has the greatest number.
		shiest, dearest := slices.Index(calm, 0), slices.Index(liked, 100)
		k := r.Intn(len(l))
		if shiest >= 0 {
			holdsAll(t, "Calm beside the shiest alone", score.Calm(p, []api.Info{l[k], l[shiest]}), []int{calm[k], 0})
		} else {
			holdsAll(t, "Calm alone, where nobody shies", score.Calm(p, l[k:k+1]), []int{100})
		}
		if dearest >= 0 {
			holdsAll(t, "Liked beside the dearest alone", score.Liked(p, []api.Info{l[dearest], l[k]}), []int{100, liked[k]})
		} else {
			holdsAll(t, "Liked alone, where nothing is liked", score.Liked(p, l[k:k+1]), []int{0})
		}
	}
}

// 16.7: the order of the infos does not count but by its places.
func TestOrderOfInfos(t *testing.T) {
	r := rand.New(rand.NewSource(1672))
	for range 5000 {
		p, l, w := randomPod(r, small()), randomInfos(r, 1+r.Intn(6), small()), randomWeights(r)
		calm, liked, total := score.Calm(p, l), score.Liked(p, l), score.Total(p, l, w)
		to := r.Perm(len(l))
		mixed := make([]api.Info, len(l))
		for k, at := range to {
			mixed[at] = l[k]
		}
		newCalm, newLiked, newTotal := score.Calm(p, mixed), score.Liked(p, mixed), score.Total(p, mixed, w)
		for k, at := range to {
			if newCalm[at] != calm[k] || newLiked[at] != liked[k] || newTotal[at] != total[k] {
				t.Fatalf("%+v %+v by %v: %v %v %v, was %v %v %v", p, l, to, newCalm, newLiked, newTotal, calm, liked, total)
			}
		}
	}
}

// 16.7: where nobody shies and nothing is liked Calm is 100 and Liked 0 everywhere.
func TestNobodyShiesAndNothingIsLiked(t *testing.T) {
	r := rand.New(rand.NewSource(1673))
	for range 5000 {
		p, l := randomPod(r, small()), randomInfos(r, r.Intn(6), small())
		switch r.Intn(2) {
		case 0:
			p.Bears = append(p.Bears, api.Bear{Any: true})
		default:
			for k := range l {
				l[k].Node.Taints = []api.Taint{{Key: "gpu", Effect: api.EffectKeep}}
			}
		}
		for k := range p.Prefers {
			switch r.Intn(2) {
			case 0:
				p.Prefers[k].Weight = -r.Intn(3)
			default:
				p.Prefers[k].Reqs = append(p.Prefers[k].Reqs, api.Req{Key: "nowhere", Op: api.OpExists})
			}
		}
		holdsAll(t, "Calm", score.Calm(p, l), slices.Repeat([]int{100}, len(l)))
		holdsAll(t, "Liked", score.Liked(p, l), slices.Repeat([]int{0}, len(l)))
	}
}
