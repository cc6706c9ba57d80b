package score_test

import (
	"math"
	"math/big"
	"math/rand"
	"slices"
	"testing"

	"stevedore/score"
)

// Promise 16.1: Normal.

func TestNormalNamedEdges(t *testing.T) {
	for _, c := range []struct {
		what            string
		l               []int
		plain, reversed []int
	}{
		{"no numbers", nil, nil, nil},
		{"an empty list", []int{}, nil, nil},
		{"the first test's", []int{1, 4, 2}, []int{25, 100, 50}, []int{75, 0, 50}},
		{"all 0", []int{0, 0, 0}, []int{0, 0, 0}, []int{100, 100, 100}},
		{"one number", []int{7}, []int{100}, []int{0}},
		{"one number, 1", []int{1}, []int{100}, []int{0}},
		{"one number, 0", []int{0}, []int{0}, []int{100}},
		{"one number below 0", []int{-7}, []int{0}, []int{100}},
		{"one number, great", []int{math.MaxInt}, []int{100}, []int{0}},
		{"all below 0", []int{-1, -9, math.MinInt}, []int{0, 0, 0}, []int{100, 100, 100}},
		{"below 0 and 0", []int{-1, 0}, []int{0, 0}, []int{100, 100}},
		{"one below 0 counts as 0", []int{-50, 100, 50}, []int{0, 100, 50}, []int{100, 0, 50}},
		{"the smallest number", []int{math.MinInt, 1}, []int{0, 100}, []int{100, 0}},
		{"the greatest one twice", []int{8, 2, 8, 0}, []int{100, 25, 100, 0}, []int{0, 75, 0, 100}},
		{"all alike", []int{3, 3, 3}, []int{100, 100, 100}, []int{0, 0, 0}},
		{"rounded down", []int{1, 2, 3}, []int{33, 66, 100}, []int{67, 34, 0}},
		{"rounded down, just below", []int{199, 200, 1}, []int{99, 100, 0}, []int{1, 0, 100}},
		{"rounded down to nothing", []int{1, 101, 2}, []int{0, 100, 1}, []int{100, 0, 99}},
		{"at 1 << 40", []int{number, number / 2, number/2 - 1, 1}, []int{100, 50, 49, 0}, []int{0, 50, 51, 100}},
		{"just below 1 << 40", []int{number, number - 1}, []int{100, 99}, []int{0, 1}},
		{"just above 1 << 40", []int{number + 1, number, number / 2}, []int{100, 100, 50}, []int{0, 0, 50}},
		{"above 1 << 40", []int{math.MaxInt, number * 2, number / 4}, []int{100, 100, 25}, []int{0, 0, 75}},
		{"all above 1 << 40", []int{math.MaxInt, number + 1}, []int{100, 100}, []int{0, 0}},
		{"from end to end", []int{math.MinInt, -1, 0, 1, math.MaxInt}, []int{0, 0, 0, 0, 100}, []int{100, 100, 100, 100, 0}},
	} {
		holdsAll(t, c.what, score.Normal(c.l, false), c.plain)
		holdsAll(t, c.what+", reversed", score.Normal(c.l, true), c.reversed)
	}
}

func TestRandomNormal(t *testing.T) {
	r := rand.New(rand.NewSource(163))
	seen := map[int]int{}
	for range 20000 {
		l := some(r, wide(), 6)
		if r.Intn(2) == 0 {
			l = some(r, []int{0, 1, 2, 3, 5, 7, 11, 64}, 6)
		}
		var numbers []*big.Int
		for _, n := range l {
			numbers = append(numbers, exact(n))
		}
		for _, reverse := range []bool{false, true} {
			got := score.Normal(l, reverse)
			if want := normalByWords(numbers, reverse); !slices.Equal(got, want) {
				t.Fatalf("Normal(%v, %v): %v, want %v", l, reverse, got, want)
			}
			for _, n := range got {
				seen[n]++
			}
		}
	}
	if len(seen) < 40 {
		t.Errorf("drawn: %v", seen)
	}
}

// What is handed in stays as it was, also where a number counts as another one; what is handed out lies elsewhere.
func TestNormalLeavesItsListAlone(t *testing.T) {
	l := roomy([]int{-5, math.MaxInt, 3, 0}, -77)
	was := opened(l)
	for _, reverse := range []bool{false, true} {
		first := score.Normal(l, reverse)
		want := slices.Clone(first)
		if !slices.Equal(opened(l), was) {
			t.Fatalf("changed: %v, was %v", opened(l), was)
		}
		second := score.Normal(l, reverse)
		for k := range first[:cap(first)] {
			first[:cap(first)][k] = -99
		}
		holdsAll(t, "written over", second, want)
		if !slices.Equal(opened(l), was) {
			t.Fatalf("shared: %v, was %v", opened(l), was)
		}
	}
}
