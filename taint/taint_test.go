package taint_test

import (
	"fmt"
	"math"
	"regexp"
	"slices"
	"strings"
	"testing"

	"stevedore/api"
	"stevedore/taint"
)

const (
	keep = api.EffectKeep
	shy  = api.EffectShy
)

var wordForm = regexp.MustCompile(`\A[a-z0-9./-]{1,32}\z`)

func tnt(key, value string, effect int) api.Taint {
	return api.Taint{Key: key, Value: value, Effect: effect}
}

// one bears one value of a key; all bears each value of it.
func one(key, value string, effect int) api.Bear {
	return api.Bear{Key: key, Value: value, Effect: effect}
}

func all(key string, effect int) api.Bear {
	return api.Bear{Key: key, Any: true, Effect: effect}
}

// texts are words, and what only looks like them.
func texts() []string {
	return []string{
		"", "a", "z", "0", "9", "-", ".", "/", "gpu", "a-b.c/d",
		"A", "_", " ", ":", "@", "`", "{", "a b", "a\x00", "a\n", "é", "\xff",
		strings.Repeat("a", 32), strings.Repeat("a", 33), strings.Repeat("a", 31) + "A", strings.Repeat("é", 16),
	}
}

func effects() []int {
	return []int{0, keep, shy, 3, 4, -1, -2, 1 << 32, 1<<32 + 1, math.MaxInt, math.MinInt}
}

func taints(n int) []api.Taint {
	l := make([]api.Taint, n)
	for i := range l {
		l[i] = tnt(fmt.Sprintf("k%03d", i), "v", 1+i%2)
	}
	return l
}

func bears(n int) []api.Bear {
	l := make([]api.Bear, n)
	for i := range l {
		l[i] = one(fmt.Sprintf("k%03d", i), "v", i%3)
	}
	return l
}

func same(t *testing.T, what string, got, want any) {
	t.Helper()
	if got != want {
		t.Errorf("%s: %v, want %v", what, got, want)
	}
}

func errno(right bool) api.Errno {
	if right {
		return api.OK
	}
	return api.ErrTaint
}

// 3.1: lists of taints that are right.
func TestCheckTakes(t *testing.T) {
	for _, l := range [][]api.Taint{
		nil, {}, {tnt("gpu", "yes", keep)}, {tnt("gpu", "", shy)},
		{tnt("gpu", "yes", keep), tnt("gpu", "yes", shy)},
		{tnt("gpu", "", shy), tnt("gpu", "", keep)},
		{tnt("z", "", keep), tnt("a", "", keep)}, // no order is asked for
		{tnt("a", "v", keep), tnt("b", "v", keep), tnt("a", "v", shy), tnt("b", "v", shy)},
		taints(63), taints(64),
	} {
		same(t, fmt.Sprint("Check of ", l), taint.Check(l), api.OK)
	}
}

// 3.1: each text as a key and as a value, with each effect.
func TestCheckOneTaint(t *testing.T) {
	for _, e := range effects() {
		for _, k := range texts() {
			for _, v := range texts() {
				right := wordForm.MatchString(k) && (v == "" || wordForm.MatchString(v)) && (e == 1 || e == 2)
				x := tnt(k, v, e)
				same(t, fmt.Sprintf("Check of %v alone", x), taint.Check([]api.Taint{x}), errno(right))
				same(t, fmt.Sprintf("Check of %v behind others", x), taint.Check([]api.Taint{tnt("first", "", keep), tnt("first", "", shy), x}), errno(right))
				same(t, fmt.Sprintf("Check of %v ahead of others", x), taint.Check([]api.Taint{x, tnt("last", "", keep)}), errno(right))
			}
		}
	}
}

// 3.1: two of one key and one effect, wherever they stand and whatever their values.
func TestCheckTwins(t *testing.T) {
	for _, n := range []int{2, 3, 10, 64} {
		for i := range n {
			for j := range i {
				for _, v := range []string{"v", "w", ""} {
					l := taints(n)
					l[i] = l[j]
					l[i].Value = v
					same(t, fmt.Sprintf("Check of twins at %d and %d of %d", j, i, n), taint.Check(l), api.ErrTaint)
					l[i].Effect = 3 - l[j].Effect
					same(t, fmt.Sprintf("Check of one key with both effects at %d and %d of %d", j, i, n), taint.Check(l), api.OK)
				}
			}
		}
	}
}

// 3.1: ErrLong is told of 65 and more, and ahead of ErrTaint.
func TestCheckLong(t *testing.T) {
	same(t, "Check of 65", taint.Check(taints(65)), api.ErrLong)
	same(t, "Check of 1000", taint.Check(taints(1000)), api.ErrLong)
	same(t, "Check of 65 that are none", taint.Check(make([]api.Taint, 65)), api.ErrLong)
	same(t, "Check of 64 that are none", taint.Check(make([]api.Taint, 64)), api.ErrTaint)
	same(t, "CheckBears of 65", taint.CheckBears(bears(65)), api.ErrLong)
	same(t, "CheckBears of 1000", taint.CheckBears(bears(1000)), api.ErrLong)
	same(t, "CheckBears of 65 that are none", taint.CheckBears(make([]api.Bear, 65)), api.ErrLong)
	same(t, "CheckBears of 64 that are none", taint.CheckBears(make([]api.Bear, 64)), api.ErrTaint)
}

// 3.1: the last of a full list counts too.
func TestCheckLast(t *testing.T) {
	l := taints(64)
	l[63].Effect = 0
	same(t, "Check of a wrong last one", taint.Check(l), api.ErrTaint)
	b := bears(64)
	b[63].Key = ""
	same(t, "CheckBears of a wrong last one", taint.CheckBears(b), api.ErrTaint)
}

// 3.1: what may be borne: lists that are right.
func TestCheckBearsTakes(t *testing.T) {
	for _, l := range [][]api.Bear{
		nil, {}, {one("gpu", "yes", 0)}, {one("gpu", "", keep)}, {all("gpu", shy)}, {all("", 0)}, {all("", keep)},
		{one("gpu", "yes", keep), one("gpu", "yes", keep)}, // one thing may be told twice
		{one("gpu", "yes", 0), one("gpu", "no", 0), all("gpu", 0), all("", 0), all("", 0)},
		{one("z", "", 0), one("a", "", 0)},
		bears(63), bears(64),
	} {
		same(t, fmt.Sprint("CheckBears of ", l), taint.CheckBears(l), api.OK)
	}
}

// 3.1: each text as a key and as a value, with Any and without, with each effect.
func TestCheckOneBear(t *testing.T) {
	for _, open := range []bool{false, true} {
		for _, e := range effects() {
			for _, k := range texts() {
				for _, v := range texts() {
					b := api.Bear{Key: k, Value: v, Any: open, Effect: e}
					key := wordForm.MatchString(k) || k == "" && open
					value := v == "" || wordForm.MatchString(v) && !open
					right := key && value && e >= 0 && e <= 2
					same(t, fmt.Sprintf("CheckBears of %v alone", b), taint.CheckBears([]api.Bear{b}), errno(right))
					same(t, fmt.Sprintf("CheckBears of %v behind others", b), taint.CheckBears([]api.Bear{one("first", "", 0), all("", 0), b}), errno(right))
					same(t, fmt.Sprintf("CheckBears of %v ahead of others", b), taint.CheckBears([]api.Bear{b, one("last", "", keep)}), errno(right))
				}
			}
		}
	}
}

// What is handed in is not changed.
func TestNothingIsChanged(t *testing.T) {
	l, b := taints(64), bears(64)
	l = append(l[:62], tnt("k000", "other", keep), tnt("é", "", 9))
	b = append(b[:62], all("", 0), api.Bear{Any: true, Value: "v"})
	keptL, keptB := slices.Clone(l), slices.Clone(b)
	taint.Check(l)
	taint.CheckBears(b)
	taint.Kept(l, b[:1])
	taint.Shy(l, b[:1])
	for _, x := range l {
		for _, y := range b {
			taint.Bears(y, x)
		}
	}
	if !slices.Equal(l, keptL) || !slices.Equal(b, keptB) {
		t.Errorf("changed: %v %v, were %v %v", l, b, keptL, keptB)
	}
}
