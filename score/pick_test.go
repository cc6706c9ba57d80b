package score_test

import (
	"math"
	"math/rand"
	"slices"
	"testing"

	"stevedore/score"
)

// yes is n places that may.
func yes(n int) []bool { return slices.Repeat([]bool{true}, n) }

// Promise 16.3: Best.

func TestBestNamedEdges(t *testing.T) {
	const low, high = math.MinInt, math.MaxInt
	for _, c := range []struct {
		what   string
		scores []int
		may    []bool
		want   []int
	}{
		{"nothing at all", nil, nil, nil},
		{"no scores", nil, yes(3), nil},
		{"no scores, empty lists", []int{}, []bool{}, nil},
		{"one that may", []int{3}, yes(1), []int{0}},
		{"one that may not", []int{3}, []bool{false}, nil},
		{"the greatest two", []int{3, 7, 7}, yes(3), []int{1, 2}},
		{"the greatest one first", []int{7, 3, 5}, yes(3), []int{0}},
		{"the greatest one last", []int{3, 5, 7}, yes(3), []int{2}},
		{"the greatest ones apart", []int{7, 3, 7, 5, 7}, yes(5), []int{0, 2, 4}},
		{"ever greater ones", []int{1, 1, 2, 2, 3, 3}, yes(6), []int{4, 5}},
		{"all alike", []int{4, 4, 4}, yes(3), []int{0, 1, 2}},
		{"the greatest one may not", []int{3, 9, 5}, []bool{true, false, true}, []int{2}},
		{"one of the greatest may not", []int{9, 9, 9}, []bool{true, false, true}, []int{0, 2}},
		{"nobody may", []int{3, 9, 5}, []bool{false, false, false}, nil},
		{"only the last one may", []int{3, 9, 5}, []bool{false, false, true}, []int{2}},

		{"entries of may missing", []int{3, 7, 9}, []bool{true, true}, []int{1}},
		{"one entry of may", []int{3, 7}, []bool{true}, []int{0}},
		{"no entry of may", []int{3, 7}, nil, nil},
		{"no entry of may, an empty list", []int{3, 7}, []bool{}, nil},
		{"the only entry of may is false", []int{3, 7}, []bool{false}, nil},
		{"more entries of may than scores", []int{3, 7}, []bool{true, true, true, true}, []int{1}},
		{"more entries of may, but none for a score", []int{3, 7}, []bool{false, false, true, true}, nil},
		{"more entries of may than scores below 0", []int{-3, -7}, yes(5), []int{0}},

		{"scores below 0", []int{-5, -2, -9, -2}, yes(4), []int{1, 3}},
		{"below 0, where 0 may not", []int{0, -2, -9}, []bool{false, true, true}, []int{1}},
		{"all the smallest number", []int{low, low}, yes(2), []int{0, 1}},
		{"the smallest number alone may", []int{0, low, high}, []bool{false, true, false}, []int{1}},
		{"the smallest number and one more", []int{low, low + 1, low}, yes(3), []int{1}},
		{"the greatest number", []int{high, low, high, high - 1}, yes(4), []int{0, 2}},
		{"the greatest number last", []int{low, -1, 0, 1, high}, yes(5), []int{4}},
		{"the greatest number may not", []int{high, low, 0}, []bool{false, true, true}, []int{2}},
	} {
		holdsAll(t, c.what, score.Best(c.scores, c.may), c.want)
	}
}

// Promise 16.3: Pick.

func TestPickNamedEdges(t *testing.T) {
	const low, high = math.MinInt, math.MaxInt
	// The greatest score of all has no entry of may: three are best, at 0, 2 and 4.
	three, five := []int{5, 1, 5, 0, 5, 9}, []int{2, 2, 1, 2, 2, 2}
	for _, c := range []struct {
		what         string
		scores       []int
		may          []bool
		draw, picked int
	}{
		{"the second of two", []int{3, 7, 7}, yes(3), 1, 2},
		{"of one", []int{3, 7}, []bool{true}, 5, 0},
		{"of one, the smallest draw", []int{3, 7}, []bool{false, true}, low, 1},
		{"of one, the greatest draw", []int{3, 7}, []bool{false, true}, high, 1},

		{"a draw of 0", three, yes(5), 0, 0},
		{"a draw of 1", three, yes(5), 1, 2},
		{"a draw of 2", three, yes(5), 2, 4},
		{"a draw of as many as there are", three, yes(5), 3, 0},
		{"a draw of one more", three, yes(5), 4, 2},
		{"a great draw", three, yes(5), 3000000 + 2, 4},
		// 1 << 64 is 1 modulo 3, so -1 is 0 there, -2 is 2 and -3 is 1.
		{"a draw of -1", three, yes(5), -1, 0},
		{"a draw of -2", three, yes(5), -2, 4},
		{"a draw of -3", three, yes(5), -3, 2},
		{"a draw of -4", three, yes(5), -4, 0},
		{"the smallest draw", three, yes(5), low, 4}, // 1 << 63 is 2 modulo 3
		{"the smallest draw but one", three, yes(5), low + 1, 0},
		{"the greatest draw", three, yes(5), high, 2}, // one less: 1
		{"the greatest draw but one", three, yes(5), high - 1, 0},

		// 1 << 64 is 1 modulo 5, 1 << 63 is 3.
		{"of five, -1", five, yes(6), -1, 0},
		{"of five, -2", five, yes(6), -2, 5},
		{"of five, the smallest draw", five, yes(6), low, 4},
		{"of five, the greatest draw", five, yes(6), high, 3},
		{"of five, 5", five, yes(6), 5, 0},
		{"of five, 2", five, yes(6), 2, 3},

		{"of two, -1", []int{4, 4}, yes(2), -1, 1},
		{"of two, the smallest draw", []int{4, 4}, yes(2), low, 0},
		{"of two, the greatest draw", []int{4, 4}, yes(2), high, 1},

		{"scores at the ends", []int{low, high, low, high}, yes(4), 1, 3},
		{"scores of the smallest number", []int{low, low}, yes(2), 1, 1},
	} {
		holds(t, c.what, score.Pick(c.scores, c.may, c.draw), c.picked)
	}
}

func TestPickOfNone(t *testing.T) {
	for _, draw := range []int{math.MinInt, -1, 0, 1, 7, math.MaxInt} {
		holds(t, "nothing at all", score.Pick(nil, nil, draw), -1)
		holds(t, "no scores", score.Pick(nil, yes(2), draw), -1)
		holds(t, "no entry of may", score.Pick([]int{3}, nil, draw), -1)
		holds(t, "nobody may", score.Pick([]int{3, 4}, []bool{false, false}, draw), -1)
		holds(t, "who may has no score", score.Pick([]int{3}, []bool{false, true}, draw), -1)
	}
}

// draws are numbers at the ends, around 0, and some between.
func draws(r *rand.Rand) []int {
	return []int{math.MinInt, math.MinInt + 1, -9, -2, -1, 0, 1, 2, 3, 9, math.MaxInt - 1, math.MaxInt, int(r.Uint64()), int(r.Uint64())}
}

func TestRandomBestAndPick(t *testing.T) {
	r := rand.New(rand.NewSource(166))
	seen := map[int]int{}
	for range 20000 {
		scores, may := randomScores(r)
		best := score.Best(scores, may)
		if want := bestByWords(scores, may); !slices.Equal(best, want) {
			t.Fatalf("Best(%v, %v): %v, want %v", scores, may, best, want)
		}
		for _, draw := range draws(r) {
			if got, want := score.Pick(scores, may, draw), pickByWords(scores, may, draw); got != want {
				t.Fatalf("Pick(%v, %v, %d): %d, want %d", scores, may, draw, got, want)
			}
		}
		seen[len(best)]++
	}
	for n := range 7 {
		if seen[n] < 100 {
			t.Errorf("drawn: %v", seen)
		}
	}
}
