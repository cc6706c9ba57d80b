package label_test

import (
	"fmt"
	"regexp"
	"slices"
	"strings"
	"testing"

	"stevedore/api"
	"stevedore/label"
)

var (
	wordForm   = regexp.MustCompile(`\A[a-z0-9./-]{1,32}\z`)
	numberForm = regexp.MustCompile(`\A(0|[1-9][0-9]{0,14})\z`)
)

// texts are words, numbers, and what only looks like them.
func texts() []string {
	return []string{
		"", "a", "z", "0", "9", "-", ".", "/", "zone", "a-b.c/d", "x1", "1x",
		"A", "Z", "_", " ", ":", "=", "@", "`", "{", ",", "a b", "a\x00", "\n", "a\n", "é", "ß", "\xff", "a\x80",
		"00", "01", "007", "10", "-1", "+1", "1.5", "1e3",
		strings.Repeat("a", 31), strings.Repeat("a", 32), strings.Repeat("a", 33),
		strings.Repeat("/", 32), strings.Repeat("A", 32), strings.Repeat("a", 31) + "A", "A" + strings.Repeat("a", 31),
		strings.Repeat("é", 16), strings.Repeat("9", 14), strings.Repeat("9", 15), strings.Repeat("9", 16),
		"1" + strings.Repeat("0", 14), "1" + strings.Repeat("0", 15), "0" + strings.Repeat("1", 14),
		"99999999999999x", strings.Repeat("9", 32), strings.Repeat("9", 33), strings.Repeat("a", 200),
	}
}

// labels are as they are told, right or not.
func labels(texts ...string) []api.Label {
	var l []api.Label
	for i := 0; i < len(texts); i += 2 {
		l = append(l, api.Label{Key: texts[i], Value: texts[i+1]})
	}
	return l
}

func req(key string, op int, values ...string) api.Req {
	return api.Req{Key: key, Op: op, Values: values}
}

// rising is n labels k00, k01 and so on.
func rising(n int) []api.Label {
	l := make([]api.Label, n)
	for i := range l {
		l[i] = api.Label{Key: fmt.Sprintf("k%03d", i), Value: "v"}
	}
	return l
}

func words(n int) []string {
	l := make([]string, n)
	for i := range l {
		l[i] = fmt.Sprintf("w%03d", i)
	}
	return l
}

// Promise 2.1.

func TestWordOfTexts(t *testing.T) {
	for _, s := range texts() {
		if got, want := label.Word(s), wordForm.MatchString(s); got != want {
			t.Errorf("Word(%q): %v, want %v", s, got, want)
		}
	}
}

func TestWordOfEachByte(t *testing.T) {
	const may = "abcdefghijklmnopqrstuvwxyz0123456789-./"
	for b := range 256 {
		c := string([]byte{byte(b)})
		want := strings.IndexByte(may, byte(b)) >= 0
		for _, s := range []string{c, "a" + c, c + "a", "a" + c + "a", strings.Repeat("a", 31) + c} {
			if got := label.Word(s); got != want {
				t.Errorf("Word(%q): %v, want %v", s, got, want)
			}
		}
	}
}

func TestWordLengths(t *testing.T) {
	for n := range 70 {
		if got, want := label.Word(strings.Repeat("k", n)), n >= 1 && n <= 32; got != want {
			t.Errorf("Word of %d bytes: %v", n, got)
		}
	}
}

func TestCheckNamedEdges(t *testing.T) {
	long, longer := strings.Repeat("k", 32), strings.Repeat("k", 33)
	bad := rising(65)
	bad[0].Key = ""
	lastBad := rising(64)
	lastBad[63].Value = "V"
	lastKeyBad := rising(64)
	lastKeyBad[63].Key = "l_"
	for _, c := range []struct {
		what string
		l    []api.Label
		want api.Errno
	}{
		{"nil", nil, api.OK},
		{"empty", []api.Label{}, api.OK},
		{"one", labels("a", "1"), api.OK},
		{"the chapter's", labels("a", "1", "zone", "x"), api.OK},
		{"an empty value", labels("a", ""), api.OK},
		{"a key and a value of 1 byte", labels("-", "/"), api.OK},
		{"a key and a value of MaxWord bytes", labels(long, long), api.OK},
		{"a key one byte longer", labels(longer, "v"), api.ErrLabel},
		{"a value one byte longer", labels("k", longer), api.ErrLabel},
		{"an empty key", labels("", "v"), api.ErrLabel},
		{"a key that is no word", labels("A", "v"), api.ErrLabel},
		{"a value that is no word", labels("a", "x y"), api.ErrLabel},
		{"equal keys", labels("a", "1", "a", "2"), api.ErrLabel},
		{"equal labels", labels("a", "1", "a", "1"), api.ErrLabel},
		{"falling keys", labels("b", "1", "a", "2"), api.ErrLabel},
		{"falling later", labels("a", "1", "c", "", "b", "2"), api.ErrLabel},
		{"keys fall though values rise", labels("b", "a", "a", "b"), api.ErrLabel},
		{"a key ahead of what it begins", labels("a", "", "a-", "", "aa", ""), api.OK},
		{"a key behind what it begins", labels("aa", "", "a", ""), api.ErrLabel},
		{"byte by byte, not by length", labels("b", "", "aa", ""), api.ErrLabel},
		{"byte by byte, not as numbers", labels("10", "", "9", ""), api.OK},
		{"bytes of all sorts rise", labels("-", "", ".", "", "/", "", "0", "", "9", "", "a", "", "z", ""), api.OK},
		{"MaxItems", rising(64), api.OK},
		{"one more", rising(65), api.ErrLong},
		{"many more", rising(900), api.ErrLong},
		{"too many, one of them bad", bad, api.ErrLong},
		{"a bad value at the end", lastBad, api.ErrLabel},
		{"a bad key at the end", lastKeyBad, api.ErrLabel},
	} {
		if got := label.Check(c.l); got != c.want {
			t.Errorf("Check of %s: %d, want %d", c.what, got, c.want)
		}
	}
}

// rightLabels says what labels are without the package's own means.
func rightLabels(l []api.Label) bool {
	for i, x := range l {
		if !wordForm.MatchString(x.Key) || x.Value != "" && !wordForm.MatchString(x.Value) {
			return false
		}
		if i > 0 && strings.Compare(l[i-1].Key, x.Key) != -1 {
			return false
		}
	}
	return true
}

func TestCheckPairsOfTexts(t *testing.T) {
	for _, a := range texts() {
		for _, b := range texts() {
			for _, l := range [][]api.Label{labels(a, b), labels(a, "", b, ""), labels("a", a, "b", b)} {
				want := api.OK
				if !rightLabels(l) {
					want = api.ErrLabel
				}
				if got := label.Check(l); got != want {
					t.Errorf("Check(%q): %d, want %d", l, got, want)
				}
			}
		}
	}
}

func reqs(n int) []api.Req {
	l := make([]api.Req, n)
	for i := range l {
		l[i] = api.Req{Key: "k", Op: api.OpExists}
	}
	return l
}

func TestCheckReqsNamedEdges(t *testing.T) {
	bad := reqs(65)
	bad[0].Op = 0
	lastBad := reqs(64)
	lastBad[63].Key = ""
	for _, c := range []struct {
		what string
		l    []api.Req
		want api.Errno
	}{
		{"nil", nil, api.OK},
		{"empty", []api.Req{}, api.OK},
		{"MaxItems", reqs(64), api.OK},
		{"one more", reqs(65), api.ErrLong},
		{"too many, one of them bad", bad, api.ErrLong},
		{"a bad one at the end", lastBad, api.ErrReq},
		{"one key asked twice", []api.Req{req("a", api.OpExists), req("a", api.OpLacks)}, api.OK},
		{"keys that fall", []api.Req{req("b", api.OpExists), req("a", api.OpExists)}, api.OK},
		{"a good one, a bad one", []api.Req{req("a", api.OpExists), req("a", api.OpIn)}, api.ErrReq},
		{"a bad one, a good one", []api.Req{req("a", api.OpIn), req("a", api.OpExists)}, api.ErrReq},
	} {
		if got := label.CheckReqs(c.l); got != c.want {
			t.Errorf("CheckReqs of %s: %d, want %d", c.what, got, c.want)
		}
	}
}

func TestCheckReqsValuesOfEachOp(t *testing.T) {
	in := []int{api.OpIn, api.OpNotIn}
	bare := []int{api.OpExists, api.OpLacks}
	by := []int{api.OpAbove, api.OpBelow}
	lastBad := append(words(63), "W")
	for _, c := range []struct {
		what   string
		ops    []int
		values []string
		want   api.Errno
	}{
		{"no values", in, nil, api.ErrReq},
		{"no values", in, []string{}, api.ErrReq},
		{"one", in, []string{"x"}, api.OK},
		{"an empty one", in, []string{""}, api.OK},
		{"two", in, []string{"x", "y"}, api.OK},
		{"one twice", in, []string{"x", "x"}, api.OK},
		{"falling", in, []string{"y", "", "x"}, api.OK},
		{"MaxItems", in, words(64), api.OK},
		{"one more", in, words(65), api.ErrReq},
		{"the last one no word", in, lastBad, api.ErrReq},
		{"the first one no word", in, []string{"X", "y"}, api.ErrReq},
		{"no values", bare, nil, api.OK},
		{"no values", bare, []string{}, api.OK},
		{"one", bare, []string{"x"}, api.ErrReq},
		{"an empty one", bare, []string{""}, api.ErrReq},
		{"no values", by, nil, api.ErrReq},
		{"no values", by, []string{}, api.ErrReq},
		{"one number", by, []string{"7"}, api.OK},
		{"two numbers", by, []string{"7", "8"}, api.ErrReq},
		{"a number twice", by, []string{"7", "7"}, api.ErrReq},
		{"an empty one", by, []string{""}, api.ErrReq},
		{"a word that is no number", by, []string{"x"}, api.ErrReq},
		{"0", by, []string{"0"}, api.OK},
		{"a 0 ahead", by, []string{"07"}, api.ErrReq},
		{"00", by, []string{"00"}, api.ErrReq},
		{"15 digits", by, []string{"123456789012345"}, api.OK},
		{"16 digits", by, []string{"1234567890123456"}, api.ErrReq},
		{"below 0", by, []string{"-1"}, api.ErrReq},
		{"not whole", by, []string{"1.5"}, api.ErrReq},
		{"no values", []int{0, 7, -1, 1 << 40, -1 << 40}, nil, api.ErrReq},
		{"one number", []int{0, 7, -1, 1 << 40, -1 << 40}, []string{"7"}, api.ErrReq},
	} {
		for _, op := range c.ops {
			if got := label.CheckReqs([]api.Req{req("k", op, c.values...)}); got != c.want {
				t.Errorf("CheckReqs of op %d, %s: %d, want %d", op, c.what, got, c.want)
			}
		}
	}
}

func TestCheckReqsKeysAndValuesOfTexts(t *testing.T) {
	errno := func(ok bool) api.Errno {
		if ok {
			return api.OK
		}
		return api.ErrReq
	}
	for _, s := range texts() {
		word, number := wordForm.MatchString(s), numberForm.MatchString(s)
		for _, c := range []struct {
			r  api.Req
			ok bool
		}{
			{api.Req{Key: s, Op: api.OpExists}, word},
			{api.Req{Key: s, Op: api.OpLacks}, word},
			{api.Req{Key: s, Op: api.OpIn, Values: []string{"x"}}, word},
			{api.Req{Key: s, Op: api.OpNotIn, Values: []string{"x"}}, word},
			{api.Req{Key: s, Op: api.OpAbove, Values: []string{"1"}}, word},
			{api.Req{Key: s, Op: api.OpBelow, Values: []string{"1"}}, word},
			{api.Req{Key: "k", Op: api.OpIn, Values: []string{s}}, word || s == ""},
			{api.Req{Key: "k", Op: api.OpNotIn, Values: []string{"x", s}}, word || s == ""},
			{api.Req{Key: "k", Op: api.OpAbove, Values: []string{s}}, number},
			{api.Req{Key: "k", Op: api.OpBelow, Values: []string{s}}, number},
		} {
			if got := label.CheckReqs([]api.Req{c.r}); got != errno(c.ok) {
				t.Errorf("CheckReqs of %q, op %d, %q: %d, want %d", c.r.Key, c.r.Op, c.r.Values, got, errno(c.ok))
			}
		}
	}
}

// Promise 2.3.

func TestMakeNamedEdges(t *testing.T) {
	var many, tooMany []string
	for i := range 64 {
		many = append(many, fmt.Sprintf("k%03d", 63-i), "v")
	}
	tooMany = append(append(tooMany, many...), "a", "")
	for _, c := range []struct {
		what  string
		pairs []string
		want  []api.Label
		e     api.Errno
	}{
		{"no pairs", nil, nil, api.OK},
		{"an empty list", []string{}, nil, api.OK},
		{"one", []string{"a", "1"}, labels("a", "1"), api.OK},
		{"an empty value", []string{"a", ""}, labels("a", ""), api.OK},
		{"the wrong way round", []string{"zone", "x", "a", "1"}, labels("a", "1", "zone", "x"), api.OK},
		{"in order", []string{"a", "1", "zone", "x"}, labels("a", "1", "zone", "x"), api.OK},
		{"three", []string{"c", "1", "a", "3", "b", "2"}, labels("a", "3", "b", "2", "c", "1"), api.OK},
		{"byte by byte", []string{"a", "", "10", "", "9", "", "aa", "", "-", "", "a-", ""},
			labels("-", "", "10", "", "9", "", "a", "", "a-", "", "aa", ""), api.OK},
		{"MaxItems", many, rising(64), api.OK},
		{"one more", tooMany, nil, api.ErrLong},
		{"one more, a key twice", append(slices.Clone(many), "k000", "v"), nil, api.ErrLong},
		{"one more, no word", append(slices.Clone(many), "", "v"), nil, api.ErrLong},
		{"a key alone", []string{"a"}, nil, api.ErrArg},
		{"an empty key alone", []string{""}, nil, api.ErrArg},
		{"three texts", []string{"a", "1", "b"}, nil, api.ErrArg},
		{"odd, and no labels", []string{"A", "x y", "A"}, nil, api.ErrArg},
		{"odd, and too many", append(slices.Clone(tooMany), "x"), nil, api.ErrArg},
		{"a key twice", []string{"a", "1", "a", "2"}, nil, api.ErrLabel},
		{"a label twice", []string{"a", "1", "b", "", "a", "1"}, nil, api.ErrLabel},
		{"an empty key", []string{"", "x"}, nil, api.ErrLabel},
		{"a key that is no word", []string{"a", "1", "B", "2"}, nil, api.ErrLabel},
		{"a value that is no word", []string{"a", "1", "b", "2 "}, nil, api.ErrLabel},
		{"a key too long", []string{strings.Repeat("k", 33), ""}, nil, api.ErrLabel},
		{"a value too long", []string{"k", strings.Repeat("v", 33)}, nil, api.ErrLabel},
		{"the longest", []string{strings.Repeat("k", 32), strings.Repeat("v", 32)},
			labels(strings.Repeat("k", 32), strings.Repeat("v", 32)), api.OK},
	} {
		got, e := label.Make(c.pairs...)
		if e != c.e || !slices.Equal(got, c.want) {
			t.Errorf("Make of %s: %q %d, want %q %d", c.what, got, e, c.want, c.e)
		}
	}
}

func TestMakeTakesPairsOneByOne(t *testing.T) {
	if got, e := label.Make(); len(got) != 0 || e != api.OK {
		t.Errorf("Make(): %q %d", got, e)
	}
	got, e := label.Make("b", "2", "a", "1")
	if want := labels("a", "1", "b", "2"); e != api.OK || !slices.Equal(got, want) {
		t.Errorf("Make: %q %d, want %q", got, e, want)
	}
}

func TestMakeLeavesPairsAsTheyAre(t *testing.T) {
	pairs := []string{"c", "1", "a", "3", "b", "2"}
	kept := slices.Clone(pairs)
	first, _ := label.Make(pairs...)
	if !slices.Equal(pairs, kept) {
		t.Errorf("Make changed its pairs: %q", pairs)
	}
	first[0].Key = "zz"
	second, _ := label.Make(pairs...)
	pairs[0] = "zz"
	if want := labels("a", "3", "b", "2", "c", "1"); !slices.Equal(second, want) {
		t.Errorf("Make shares what it answers: %q, want %q", second, want)
	}
}

// What Make answers does not hang on the order of the pairs, is right, and has every pair.
func TestMakeOfEveryOrder(t *testing.T) {
	sorted := []string{"a", "a-", "a/", "aa", "b"}
	var want []api.Label
	for i, k := range sorted {
		want = append(want, api.Label{Key: k, Value: fmt.Sprint(9 - i)})
	}
	eachOrder(len(want), func(order []int) {
		var pairs []string
		for _, i := range order {
			pairs = append(pairs, want[i].Key, want[i].Value)
		}
		got, e := label.Make(pairs...)
		if e != api.OK || !slices.Equal(got, want) || label.Check(got) != api.OK {
			t.Errorf("Make(%q): %q %d, want %q", pairs, got, e, want)
		}
	})
}

// eachOrder tells all orders of 0 to n - 1.
func eachOrder(n int, tell func([]int)) {
	var put func(order []int)
	put = func(order []int) {
		if len(order) == n {
			tell(order)
			return
		}
		for i := range n {
			if !slices.Contains(order, i) {
				put(append(slices.Clone(order), i))
			}
		}
	}
	put(nil)
}
