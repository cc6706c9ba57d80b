package taint_test

import (
	"fmt"
	"math/rand"
	"slices"
	"testing"

	"stevedore/api"
	"stevedore/taint"
)

// bearsByWords is the chapter's sentence, word by word.
func bearsByWords(b api.Bear, t api.Taint) bool {
	effect := b.Effect == 0 || b.Effect == t.Effect
	key := b.Key == t.Key || b.Key == "" && b.Any
	value := b.Any || b.Value == t.Value
	return effect && key && value
}

func keptByWords(l []api.Taint, bears []api.Bear) (api.Taint, bool) {
	for _, t := range l {
		n := 0
		for _, b := range bears {
			if bearsByWords(b, t) {
				n++
			}
		}
		if t.Effect == 1 && n == 0 {
			return t, true
		}
	}
	return api.Taint{}, false
}

func shyByWords(l []api.Taint, bears []api.Bear) int {
	n := 0
	for i := range l {
		x := l[i]
		if x.Effect != 2 {
			continue
		}
		x.Effect = 1
		turned := slices.Clone(bears)
		for j := range turned { // shyness is keeping off, with the effects turned
			switch turned[j].Effect {
			case 1:
				turned[j].Effect = 2
			case 2:
				turned[j].Effect = 1
			}
		}
		if _, kept := keptByWords([]api.Taint{x}, turned); kept {
			n++
		}
	}
	return n
}

// everyTaint and everyBear are all that can be told of few texts and effects, right or not.
func everyTaint(words []string, effects []int) []api.Taint {
	var l []api.Taint
	for _, k := range words {
		for _, v := range words {
			for _, e := range effects {
				l = append(l, tnt(k, v, e))
			}
		}
	}
	return l
}

func everyBear(words []string, effects []int) []api.Bear {
	var l []api.Bear
	for _, t := range everyTaint(words, effects) {
		l = append(l, one(t.Key, t.Value, t.Effect), api.Bear{Key: t.Key, Value: t.Value, Any: true, Effect: t.Effect})
	}
	return l
}

// 3.1: the chapter's first example, and the edges that its words name.
func TestBearsExamples(t *testing.T) {
	gpu := tnt("gpu", "yes", keep)
	for _, c := range []struct {
		b    api.Bear
		t    api.Taint
		want bool
	}{
		{one("gpu", "yes", 0), gpu, true},
		{all("gpu", 0), gpu, true},
		{all("", 0), gpu, true},
		{one("gpu", "no", 0), gpu, false},
		{all("gpu", shy), gpu, false},
		{one("gpu", "yes", keep), gpu, true},
		{one("gpu", "yes", shy), gpu, false},
		{one("gpu", "", 0), gpu, false},
		{one("cpu", "yes", 0), gpu, false},
		{all("cpu", 0), gpu, false},
		{all("", keep), gpu, true},
		{all("", shy), gpu, false},
		{one("", "yes", 0), gpu, false},
		{one("gpu", "", 0), tnt("gpu", "", keep), true},
		{one("gpu", "yes", 0), tnt("gpu", "", keep), false},
		{one("gpu", "yes", 0), tnt("gpu", "yes", shy), true},
		{all("gpu", 0), tnt("gpu", "", shy), true},
		// whatever both are
		{api.Bear{}, api.Taint{}, true},
		{one("", "v", 0), tnt("", "v", keep), true},
		{api.Bear{Key: "gpu", Value: "no", Any: true}, gpu, true},
		{api.Bear{Key: "", Value: "no", Any: true}, gpu, true},
		{one("gpu", "yes", 7), tnt("gpu", "yes", 7), true},
		{one("gpu", "yes", 7), gpu, false},
		{one("gpu", "yes", keep), tnt("gpu", "yes", 0), false},
		{one("É\xff", "\x00", -1), tnt("É\xff", "\x00", -1), true},
		{one("É\xff", "\x00", -1), tnt("É\xfe", "\x00", -1), false},
	} {
		same(t, fmt.Sprintf("Bears(%v, %v)", c.b, c.t), taint.Bears(c.b, c.t), c.want)
	}
}

// 3.1: as the words say, whatever both are.
func TestBearsByWords(t *testing.T) {
	words := []string{"", "a", "b", "B\xff"}
	for _, b := range everyBear(words, effects()) {
		for _, x := range everyTaint(words, effects()) {
			same(t, fmt.Sprintf("Bears(%v, %v)", b, x), taint.Bears(b, x), bearsByWords(b, x))
		}
	}
}

func sameKept(t *testing.T, l []api.Taint, bears []api.Bear, want api.Taint, wantOK bool) {
	t.Helper()
	got, ok := taint.Kept(l, bears)
	if got != want || ok != wantOK {
		t.Errorf("Kept(%v, %v): %v %v, want %v %v", l, bears, got, ok, want, wantOK)
	}
}

// 3.2: the first that keeps off; none of those that are borne, or that one is only shy of.
func TestKept(t *testing.T) {
	gpu, old, wet := tnt("gpu", "yes", keep), tnt("old", "", shy), tnt("wet", "", keep)
	l := []api.Taint{old, gpu, wet}
	none := api.Taint{}
	sameKept(t, nil, nil, none, false)
	sameKept(t, []api.Taint{}, []api.Bear{}, none, false)
	sameKept(t, nil, []api.Bear{all("", 0)}, none, false)
	sameKept(t, []api.Taint{old}, nil, none, false)
	sameKept(t, l, nil, gpu, true)
	sameKept(t, []api.Taint{wet, gpu}, nil, wet, true)
	sameKept(t, l, []api.Bear{all("old", 0)}, gpu, true)
	sameKept(t, l, []api.Bear{all("gpu", shy)}, gpu, true)
	sameKept(t, l, []api.Bear{one("gpu", "no", 0), all("gpu", 0)}, wet, true)
	sameKept(t, l, []api.Bear{one("wet", "", 0)}, gpu, true)
	sameKept(t, l, []api.Bear{one("wet", "", 0), one("gpu", "yes", keep)}, none, false)
	sameKept(t, l, []api.Bear{all("", keep)}, none, false)
}

// 3.2: how many taints one is shy of.
func TestShy(t *testing.T) {
	l := []api.Taint{tnt("old", "", shy), tnt("gpu", "yes", keep), tnt("gpu", "yes", shy), tnt("far", "x", shy)}
	for _, c := range []struct {
		bears []api.Bear
		want  int
	}{
		{nil, 3},
		{[]api.Bear{}, 3},
		{[]api.Bear{one("old", "", 0)}, 2},
		{[]api.Bear{one("old", "", keep)}, 3},
		{[]api.Bear{all("old", shy), all("old", shy)}, 2},
		{[]api.Bear{all("gpu", 0), one("far", "y", 0)}, 2},
		{[]api.Bear{all("gpu", keep)}, 3},
		{[]api.Bear{all("gpu", 0), one("far", "x", 0), all("old", 0)}, 0},
		{[]api.Bear{all("", shy)}, 0},
		{[]api.Bear{all("", keep)}, 3},
	} {
		same(t, fmt.Sprintf("Shy(%v, %v)", l, c.bears), taint.Shy(l, c.bears), c.want)
	}
	same(t, "Shy of no taints", taint.Shy(nil, nil), 0)
	same(t, "Shy of no taints for one that bears all", taint.Shy(nil, []api.Bear{all("", 0)}), 0)
}

// 3.1, 3.2: lists that are none are answered by the words, too.
func TestListsThatAreNone(t *testing.T) {
	gpu := tnt("gpu", "yes", keep)
	odd := tnt("", "É", keep)
	sameKept(t, []api.Taint{tnt("gpu", "yes", 0), tnt("gpu", "yes", 3), tnt("gpu", "yes", -1)}, nil, api.Taint{}, false)
	sameKept(t, []api.Taint{gpu, gpu}, nil, gpu, true)
	sameKept(t, []api.Taint{odd, gpu}, nil, odd, true)
	sameKept(t, []api.Taint{odd, gpu}, []api.Bear{one("", "É", 0)}, gpu, true)
	sameKept(t, []api.Taint{odd, gpu}, []api.Bear{{Any: true, Value: "no"}}, api.Taint{}, false)
	sameKept(t, make([]api.Taint, 3), nil, api.Taint{}, false)
	x := tnt("x", "", shy)
	same(t, "Shy of one that stands thrice", taint.Shy([]api.Taint{x, x, x}, nil), 3)
	same(t, "Shy of effects that there are not", taint.Shy([]api.Taint{tnt("x", "", 0), tnt("x", "", 3), tnt("x", "", -2)}, nil), 0)

	many := make([]api.Taint, 1000)
	for i := range many {
		many[i] = tnt(fmt.Sprintf("k%03d", i), "", shy)
	}
	most := make([]api.Bear, 998)
	for i := range most {
		most[i] = all(fmt.Sprintf("k%03d", i), 0)
	}
	same(t, "Shy of a thousand", taint.Shy(many, nil), 1000)
	same(t, "Shy of a thousand but for 998", taint.Shy(many, most), 2)
	many[999].Effect = keep
	sameKept(t, many, most, many[999], true)
}

// pair is a list of taints and what is borne, drawn of few words so that they meet often.
func pair(r *rand.Rand) ([]api.Taint, []api.Bear) {
	words := []string{"", "a", "b", "c"}
	ts := everyTaint(words, []int{keep, shy, keep, shy, 0, 3})
	bs := everyBear(words, []int{0, 0, keep, shy, 3})
	l := make([]api.Taint, r.Intn(5))
	for i := range l {
		l[i] = ts[r.Intn(len(ts))]
	}
	b := make([]api.Bear, r.Intn(5))
	for i := range b {
		b[i] = bs[r.Intn(len(bs))]
	}
	return l, b
}

// 3.2: as the words say, whatever is handed in.
func TestByWords(t *testing.T) {
	r := rand.New(rand.NewSource(3))
	for range 5000 {
		l, b := pair(r)
		want, ok := keptByWords(l, b)
		sameKept(t, l, b, want, ok)
		same(t, fmt.Sprintf("Shy(%v, %v)", l, b), taint.Shy(l, b), shyByWords(l, b))
	}
}

func isKept(l []api.Taint, b []api.Bear) bool {
	_, kept := taint.Kept(l, b)
	return kept
}

// 3.3: who bears more, wherever it is told, is kept off by no more.
func TestWhoBearsMore(t *testing.T) {
	r := rand.New(rand.NewSource(33))
	for range 3000 {
		l, b := pair(r)
		_, more := pair(r)
		wide := slices.Insert(slices.Clone(b), r.Intn(len(b)+1), more...)
		if isKept(l, wide) && !isKept(l, b) {
			t.Fatalf("%v keeps %v off, and not %v", l, wide, b)
		}
		if taint.Shy(l, wide) > taint.Shy(l, b) {
			t.Fatalf("of %v, %v is shy of more than %v", l, wide, b)
		}
		for _, x := range l { // and each taint by itself
			if isKept([]api.Taint{x}, wide) && !isKept([]api.Taint{x}, b) {
				t.Fatalf("%v keeps %v off, and not %v", x, wide, b)
			}
		}
	}
}

// 3.4: one that bears all is kept off nowhere, and shy of nothing, whatever else it bears.
func TestWhoBearsAll(t *testing.T) {
	every := everyTaint(texts(), effects())
	sameKept(t, every, []api.Bear{all("", 0)}, api.Taint{}, false)
	same(t, "Shy of everything for one that bears all", taint.Shy(every, []api.Bear{all("", 0)}), 0)
	r := rand.New(rand.NewSource(34))
	for range 1000 {
		l, b := pair(r)
		b = slices.Insert(b, r.Intn(len(b)+1), all("", 0))
		sameKept(t, l, b, api.Taint{}, false)
		same(t, fmt.Sprintf("Shy(%v, %v)", l, b), taint.Shy(l, b), 0)
	}
}

// 3.5: a taint more, wherever it stands, keeps off no fewer.
func TestTaintMore(t *testing.T) {
	r := rand.New(rand.NewSource(35))
	for range 3000 {
		l, b := pair(r)
		more, _ := pair(r)
		long := slices.Insert(slices.Clone(l), r.Intn(len(l)+1), more...)
		if isKept(l, b) && !isKept(long, b) {
			t.Fatalf("%v keeps %v off, and %v does not", l, b, long)
		}
		if taint.Shy(long, b) < taint.Shy(l, b) {
			t.Fatalf("%v is shy of fewer of %v than of %v", b, long, l)
		}
	}
}
