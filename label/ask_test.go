package label_test

import (
	"math/big"
	"slices"
	"strings"
	"testing"

	"stevedore/api"
	"stevedore/label"
)

// asked are Reqs of a key, right ones and wrong ones.
func asked(key string) []api.Req {
	var l []api.Req
	lists := [][]string{
		nil, {}, {""}, {"1"}, {"2"}, {"x"}, {"x", "1"}, {"1", "1"}, {"1", "x"}, {"", "2"},
		{"0"}, {"00"}, {"01"}, {"9"}, {"10"}, {"999999999999999"}, {"1000000000000000"}, {"A"}, {"-1"},
	}
	for op := -1; op <= 8; op++ {
		for _, values := range lists {
			l = append(l, api.Req{Key: key, Op: op, Values: values})
		}
	}
	return l
}

// labelLists are labels, right ones and wrong ones.
func labelLists() [][]api.Label {
	l := [][]api.Label{nil, {}}
	values := []string{"", "0", "1", "2", "9", "10", "x", "01", "00", "999999999999999", "1000000000000000", "A", "-1"}
	for _, v := range values {
		l = append(l, labels("a", v), labels("b", v), labels("a", "1", "b", v))
		l = append(l, labels("a", v, "a", "1"), labels("a", "x", "a", v), labels("b", "2", "a", v))
	}
	return append(l, labels("", "1"), labels("", "x", "a", ""))
}

// met says what the chapter's words say, by other means than the package.
func met(l []api.Label, r api.Req) bool {
	has := map[string]string{}
	for _, x := range slices.Backward(l) {
		has[x.Key] = x.Value
	}
	value, there := has[r.Key]
	in := there && slices.Index(r.Values, value) >= 0
	order, ok := numberOrder(value, r.Values)
	switch r.Op {
	case api.OpIn:
		return in
	case api.OpNotIn:
		return !in
	case api.OpExists:
		return there
	case api.OpLacks:
		return !there
	case api.OpAbove:
		return there && ok && order == 1
	case api.OpBelow:
		return there && ok && order == -1
	}
	return false
}

// numberOrder holds a value against the one that is given, if both are numbers.
func numberOrder(value string, given []string) (int, bool) {
	if len(given) != 1 || !numberForm.MatchString(value) || !numberForm.MatchString(given[0]) {
		return 0, false
	}
	a, _ := new(big.Int).SetString(value, 10)
	b, _ := new(big.Int).SetString(given[0], 10)
	return a.Cmp(b), true
}

// Promise 2.2.

func TestGet(t *testing.T) {
	for _, c := range []struct {
		l     []api.Label
		key   string
		value string
		there bool
	}{
		{nil, "a", "", false},
		{[]api.Label{}, "", "", false},
		{labels("a", "1"), "a", "1", true},
		{labels("a", "1"), "b", "", false},
		{labels("a", "1"), "", "", false},
		{labels("a", "1"), "A", "", false},
		{labels("aa", "1"), "a", "", false},
		{labels("a", "1"), "aa", "", false},
		{labels("a", ""), "a", "", true},
		{labels("", "x"), "", "x", true},
		{labels("a", "1", "b", "2", "c", "3"), "b", "2", true},
		{labels("a", "1", "b", "2", "c", "3"), "c", "3", true},
		{labels("a", "1", "a", "2"), "a", "1", true},
		{labels("a", "", "a", "2"), "a", "", true},
		{labels("c", "3", "a", "2", "b", "", "a", "1"), "a", "2", true},
		{labels("c", "3", "a", "2"), "a", "2", true},
		{rising(900), "k899", "v", true},
	} {
		if value, there := label.Get(c.l, c.key); value != c.value || there != c.there {
			t.Errorf("Get(%q, %q): %q %v, want %q %v", c.l, c.key, value, there, c.value, c.there)
		}
	}
}

func TestMeetsNamedEdges(t *testing.T) {
	example := labels("a", "1", "zone", "x")
	twice := labels("a", "1", "a", "9")
	digits := labels("a", "999999999999999", "b", "9999999999999999", "c", "07", "d", "", "e", "0", "f", "7x")
	for _, c := range []struct {
		l    []api.Label
		r    api.Req
		want bool
	}{
		{example, req("zone", api.OpIn, "x", "y"), true},
		{example, req("zone", api.OpIn, "y", "x"), true},
		{example, req("zone", api.OpIn, "y"), false},
		{example, req("zone", api.OpIn), false},
		{example, req("a", api.OpAbove, "0"), true},
		{example, req("a", api.OpAbove, "1"), false},
		{example, req("a", api.OpAbove, "2"), false},
		{example, req("a", api.OpBelow, "0"), false},
		{example, req("a", api.OpBelow, "1"), false},
		{example, req("a", api.OpBelow, "2"), true},
		{example, req("a", api.OpBelow, "10"), true},
		{example, req("b", api.OpNotIn, "1"), true},
		{example, req("a", api.OpNotIn, "1"), false},
		{example, req("a", api.OpNotIn, "2", "3"), true},
		{example, req("a", api.OpNotIn), true},
		{example, req("b", api.OpIn, ""), false},
		{example, req("b", api.OpExists), false},
		{example, req("a", api.OpExists), true},
		{example, req("b", api.OpLacks), true},
		{example, req("a", api.OpLacks), false},
		{example, req("a", api.OpAbove), false},
		{example, req("a", api.OpBelow), false},
		{example, req("a", api.OpAbove, "0", "0"), false},
		{example, req("a", api.OpBelow, "2", "3"), false},
		{example, req("a", api.OpAbove, ""), false},
		{example, req("a", api.OpAbove, "00"), false},
		{example, req("a", api.OpBelow, "x"), false},
		{example, req("a", api.OpBelow, "02"), false},
		{example, req("a", api.OpBelow, "1234567890123456"), false},
		{example, req("a", api.OpBelow, "123456789012345"), true},
		{example, req("zone", api.OpAbove, "0"), false},
		{example, req("zone", api.OpBelow, "9"), false},
		{example, req("b", api.OpAbove, "0"), false},
		{example, req("b", api.OpBelow, "9"), false},
		{example, req("a", 0), false},
		{example, req("a", 7, "1"), false},
		{example, req("b", 7), false},
		{example, req("a", -1), false},
		{example, req("a", 1<<62+api.OpExists), false},
		{twice, req("a", api.OpIn, "1"), true},
		{twice, req("a", api.OpIn, "9"), false},
		{twice, req("a", api.OpNotIn, "9"), true},
		{twice, req("a", api.OpAbove, "5"), false},
		{twice, req("a", api.OpBelow, "5"), true},
		{digits, req("a", api.OpAbove, "999999999999998"), true},
		{digits, req("a", api.OpAbove, "9"), true},
		{digits, req("b", api.OpAbove, "1"), false},
		{digits, req("c", api.OpAbove, "1"), false},
		{digits, req("c", api.OpBelow, "9"), false},
		{digits, req("d", api.OpBelow, "9"), false},
		{digits, req("d", api.OpIn, ""), true},
		{digits, req("d", api.OpExists), true},
		{digits, req("e", api.OpBelow, "1"), true},
		{digits, req("e", api.OpAbove, "0"), false},
		{digits, req("f", api.OpAbove, "1"), false},
		{nil, req("a", api.OpLacks), true},
		{nil, req("a", api.OpIn, "1"), false},
		{nil, api.Req{}, false},
	} {
		if got := label.Meets(c.l, c.r); got != c.want {
			t.Errorf("Meets(%q, %v): %v, want %v", c.l, c.r, got, c.want)
		}
	}
}

func TestMeetsAsTheWordsSay(t *testing.T) {
	for _, l := range labelLists() {
		for _, key := range []string{"a", "b", ""} {
			for _, r := range asked(key) {
				if got, want := label.Meets(l, r), met(l, r); got != want {
					t.Errorf("Meets(%q, %v): %v, want %v", l, r, got, want)
				}
			}
		}
	}
}

// Numbers are held against each other as numbers, at all lengths.
func TestMeetsOrdersNumbers(t *testing.T) {
	numbers := []string{"0"}
	for n := 1; n <= 15; n++ {
		zeros, nines := strings.Repeat("0", n-1), strings.Repeat("9", n)
		numbers = append(numbers, "1"+zeros, "5"+zeros, nines)
	}
	for i, a := range numbers {
		for j, b := range numbers {
			l := labels("n", a)
			above := label.Meets(l, api.Req{Key: "n", Op: api.OpAbove, Values: []string{b}})
			below := label.Meets(l, api.Req{Key: "n", Op: api.OpBelow, Values: []string{b}})
			if above != (i > j) || below != (i < j) {
				t.Errorf("%s against %s: above %v, below %v", a, b, above, below)
			}
		}
	}
}

func TestMatchNamedEdges(t *testing.T) {
	l := labels("a", "1", "zone", "x")
	yes := api.Req{Key: "a", Op: api.OpExists}
	no := api.Req{Key: "a", Op: api.OpLacks}
	none := api.Req{Key: "a", Op: 9}
	for _, c := range []struct {
		l    []api.Label
		reqs []api.Req
		want bool
	}{
		{l, nil, true},
		{l, []api.Req{}, true},
		{nil, nil, true},
		{nil, []api.Req{}, true},
		{labels("", "?", "", "?"), nil, true},
		{l, []api.Req{yes}, true},
		{l, []api.Req{no}, false},
		{l, []api.Req{none}, false},
		{l, []api.Req{yes, yes}, true},
		{l, []api.Req{yes, no}, false},
		{l, []api.Req{no, yes}, false},
		{l, []api.Req{yes, none}, false},
		{l, []api.Req{yes, req("zone", api.OpIn, "x", "y"), req("a", api.OpAbove, "0")}, true},
		{l, []api.Req{yes, req("zone", api.OpIn, "y"), req("a", api.OpAbove, "0")}, false},
		{nil, []api.Req{yes}, false},
		{nil, []api.Req{no}, true},
	} {
		if got := label.Match(c.l, c.reqs); got != c.want {
			t.Errorf("Match(%q, %v): %v, want %v", c.l, c.reqs, got, c.want)
		}
	}
}

func TestSame(t *testing.T) {
	x, y, none := labels("zone", "x"), labels("zone", "y"), labels("a", "x")
	blank := labels("zone", "")
	twice := labels("zone", "x", "zone", "y")
	for _, c := range []struct {
		a, b []api.Label
		key  string
		want bool
	}{
		{x, x, "zone", true},
		{x, labels("a", "1", "zone", "x"), "zone", true},
		{x, y, "zone", false},
		{x, none, "zone", false},
		{none, x, "zone", false},
		{none, none, "zone", false},
		{nil, nil, "zone", false},
		{nil, nil, "", false},
		{x, nil, "zone", false},
		{nil, x, "zone", false},
		{x, x, "a", false},
		{blank, blank, "zone", true},
		{blank, nil, "zone", false},
		{nil, blank, "zone", false},
		{blank, none, "zone", false},
		{none, blank, "zone", false},
		{blank, x, "zone", false},
		{twice, x, "zone", true},
		{twice, y, "zone", false},
		{y, twice, "zone", false},
		{labels("a", "1", "b", "2"), labels("a", "9", "b", "2"), "b", true},
		{labels("a", "1", "b", "2"), labels("a", "9", "b", "2"), "a", false},
	} {
		if got := label.Same(c.a, c.b, c.key); got != c.want {
			t.Errorf("Same(%q, %q, %q): %v, want %v", c.a, c.b, c.key, got, c.want)
		}
	}
}

// Promise 2.4.

func TestNotInAndLacksAreTheOpposites(t *testing.T) {
	for _, l := range labelLists() {
		for _, r := range append(asked("a"), asked("b")...) {
			in, not, exists, lacks := r, r, r, r
			in.Op, not.Op, exists.Op, lacks.Op = api.OpIn, api.OpNotIn, api.OpExists, api.OpLacks
			if label.Meets(l, in) == label.Meets(l, not) {
				t.Errorf("%q: OpIn and OpNotIn of %q, %q agree", l, r.Key, r.Values)
			}
			if label.Meets(l, exists) == label.Meets(l, lacks) {
				t.Errorf("%q: OpExists and OpLacks of %q agree", l, r.Key)
			}
		}
	}
}

// Promise 2.5.

// some is a smaller choice of what may be asked, so that pairs and triples of it can all be tried.
func some() []api.Req {
	return []api.Req{
		req("a", api.OpIn, "1", "x"), req("a", api.OpNotIn, "1"), req("a", api.OpExists),
		req("b", api.OpLacks), req("a", api.OpAbove, "1"), req("b", api.OpBelow, "9"),
		req("a", 7), req("a", api.OpAbove),
	}
}

func TestMoreAskedIsMetByNoMore(t *testing.T) {
	for _, l := range labelLists() {
		for _, r := range some() {
			for _, s := range some() {
				fewer, more := label.Match(l, []api.Req{r}), label.Match(l, []api.Req{r, s})
				if more && !fewer {
					t.Errorf("%q meets %v and %v, but not the first alone", l, r, s)
				}
				if want := met(l, r) && met(l, s); more != want {
					t.Errorf("%q meets %v and %v: %v, want %v", l, r, s, more, want)
				}
			}
		}
	}
}

func TestOrderOfWhatIsAskedDoesNotCount(t *testing.T) {
	for _, l := range labelLists() {
		for _, r := range some() {
			for _, s := range some() {
				for _, u := range some() {
					all := []api.Req{r, s, u}
					first := label.Match(l, all)
					eachOrder(3, func(o []int) {
						if got := label.Match(l, []api.Req{all[o[0]], all[o[1]], all[o[2]]}); got != first {
							t.Fatalf("%q: %v is met otherwise in another order", l, all)
						}
					})
				}
			}
		}
	}
}

// Promise 2.6.

func TestLabelOfAnotherKeyChangesNothing(t *testing.T) {
	others := labels("c", "1", "", "x", "aa", "2", "A", "9", "zz", "")
	for _, l := range labelLists() {
		for _, other := range others {
			for at := range len(l) + 1 {
				wider := slices.Insert(slices.Clone(l), at, other)
				for _, r := range append(asked("a"), asked("b")...) {
					if label.Meets(l, r) != label.Meets(wider, r) || label.Match(l, []api.Req{r}) != label.Match(wider, []api.Req{r}) {
						t.Errorf("%q with %q: %v is met otherwise", l, other, r)
					}
				}
			}
		}
	}
}

// What is handed in stays as it was (rule 4).
func TestNothingHandedInIsChanged(t *testing.T) {
	l := labels("b", "2", "a", "1", "a", "0")
	r := []api.Req{req("b", api.OpIn, "y", "x"), req("a", api.OpAbove, "5", "3")}
	keptLabels := slices.Clone(l)
	label.Check(l)
	label.CheckReqs(r)
	label.Get(l, "a")
	label.Meets(l, r[0])
	label.Match(l, r)
	label.Same(l, l, "a")
	if !slices.Equal(l, keptLabels) {
		t.Errorf("labels were changed: %q", l)
	}
	if !slices.Equal(r[0].Values, []string{"y", "x"}) || !slices.Equal(r[1].Values, []string{"5", "3"}) || r[0].Key != "b" || r[1].Key != "a" {
		t.Errorf("what is asked was changed: %v", r)
	}
}

func FuzzMeets(f *testing.F) {
	f.Add("a", "1", "a", 5, "0", "")
	f.Add("zone", "x", "zone", 1, "x", "y")
	f.Fuzz(func(t *testing.T, key, value, asks string, op int, v, w string) {
		l := labels(key, value, asks, w)
		for _, values := range [][]string{nil, {v}, {v, w}} {
			r := api.Req{Key: asks, Op: op, Values: values}
			if got, want := label.Meets(l, r), met(l, r); got != want {
				t.Errorf("Meets(%q, %v): %v, want %v", l, r, got, want)
			}
		}
		_, e := label.Make(key, value)
		if want := wordForm.MatchString(key) && (value == "" || wordForm.MatchString(value)); (e == api.OK) != want {
			t.Errorf("Make(%q, %q): %d", key, value, e)
		}
	})
}
