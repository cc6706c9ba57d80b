package quant_test

import (
	"math"
	"slices"
	"testing"

	"stevedore/api"
	"stevedore/quant"
)

// someRes puts each pair of edges beside a third number, so that every member meets every edge.
func someRes() []api.Res {
	few := []int{math.MinInt, -1, 0, 1, 1500, most / 2, most - 1, most, most + 1, math.MaxInt}
	var l []api.Res
	for i, a := range few {
		for j, b := range few {
			l = append(l, api.Res{CPU: a, Mem: b, Disk: few[(i+2*j+1)%len(few)]})
		}
	}
	return l
}

func clampRes(r api.Res) api.Res {
	return api.Res{CPU: quant.Clamp(r.CPU), Mem: quant.Clamp(r.Mem), Disk: quant.Clamp(r.Disk)}
}

func holdRes(t *testing.T, what string, got, want api.Res) {
	t.Helper()
	if got != want {
		t.Errorf("%s: %v, want %v", what, got, want)
	}
}

// Promise 1.3.

func TestPlusMinusNamedEdges(t *testing.T) {
	a, b := api.Res{CPU: 1, Mem: 20, Disk: 300}, api.Res{CPU: 4000, Mem: 7, Disk: 300}
	holdRes(t, "Plus", quant.Plus(a, b), api.Res{CPU: 4001, Mem: 27, Disk: 600})
	holdRes(t, "Minus", quant.Minus(a, b), api.Res{Mem: 13})
	holdRes(t, "Minus, turned", quant.Minus(b, a), api.Res{CPU: 3999})
	ends, odd := api.Res{CPU: most, Mem: -5, Disk: math.MaxInt}, api.Res{CPU: 1, Mem: 3, Disk: math.MaxInt}
	holdRes(t, "Plus at the ends", quant.Plus(ends, odd), api.Res{CPU: most, Mem: 3, Disk: most})
	holdRes(t, "Minus at the ends", quant.Minus(ends, odd), api.Res{CPU: most - 1})
}

func TestPlusMinusFitsMemberByMember(t *testing.T) {
	for _, a := range someRes() {
		for _, b := range someRes() {
			holdRes(t, "Plus", quant.Plus(a, b), api.Res{CPU: quant.Add(a.CPU, b.CPU), Mem: quant.Add(a.Mem, b.Mem), Disk: quant.Add(a.Disk, b.Disk)})
			holdRes(t, "Minus", quant.Minus(a, b), api.Res{CPU: quant.Sub(a.CPU, b.CPU), Mem: quant.Sub(a.Mem, b.Mem), Disk: quant.Sub(a.Disk, b.Disk)})
			x, y := clampRes(a), clampRes(b)
			if want := x.CPU <= y.CPU && x.Mem <= y.Mem && x.Disk <= y.Disk; quant.Fits(a, b) != want {
				t.Errorf("Fits(%v, %v): %v", a, b, !want)
			}
		}
	}
}

func TestFitsNamedEdges(t *testing.T) {
	five := api.Res{CPU: 5, Mem: 5, Disk: 5}
	for _, c := range []struct {
		want, free api.Res
		fits       bool
	}{
		{api.Res{}, api.Res{}, true},
		{five, five, true},
		{api.Res{CPU: 6, Mem: 5, Disk: 5}, five, false},
		{api.Res{CPU: 5, Mem: 6, Disk: 5}, five, false},
		{api.Res{CPU: 5, Mem: 5, Disk: 6}, five, false},
		{api.Res{CPU: 4, Mem: 6, Disk: 4}, five, false},
		{api.Res{CPU: -1, Mem: -1, Disk: -1}, api.Res{}, true},
		{api.Res{}, api.Res{CPU: -1, Mem: -1, Disk: -1}, true},
		{api.Res{CPU: 1}, api.Res{CPU: math.MinInt}, false},
		{api.Res{CPU: most + 1}, api.Res{CPU: most}, true},
		{api.Res{Mem: math.MaxInt}, api.Res{Mem: most}, true},
		{api.Res{Disk: most}, api.Res{Disk: most - 1}, false},
	} {
		if quant.Fits(c.want, c.free) != c.fits {
			t.Errorf("Fits(%v, %v): %v", c.want, c.free, !c.fits)
		}
	}
}

func TestSum(t *testing.T) {
	a, b := api.Res{CPU: 1, Mem: 2}, api.Res{CPU: 3, Mem: 1, Disk: 5}
	holdRes(t, "Sum of none", quant.Sum(), api.Res{})
	holdRes(t, "Sum of nil", quant.Sum(nil...), api.Res{})
	holdRes(t, "Sum of an empty list", quant.Sum([]api.Res{}...), api.Res{})
	holdRes(t, "Sum of one", quant.Sum(b), b)
	holdRes(t, "Sum of one that counts otherwise", quant.Sum(api.Res{CPU: -3, Mem: math.MaxInt, Disk: 1}), api.Res{Mem: most, Disk: 1})
	holdRes(t, "Sum of three", quant.Sum(a, a, b), api.Res{CPU: 5, Mem: 5, Disk: 5})
	holdRes(t, "Sum with one below 0", quant.Sum(a, api.Res{CPU: -1, Mem: math.MinInt}, b), api.Res{CPU: 4, Mem: 3, Disk: 5})
	great := api.Res{CPU: most, Mem: most / 2, Disk: math.MaxInt}
	holdRes(t, "Sum of great ones", quant.Sum(great, great, great), api.Res{CPU: most, Mem: most, Disk: most})
	holdRes(t, "Sum of many", quant.Sum(slices.Repeat([]api.Res{b}, 1000)...), api.Res{CPU: 3000, Mem: 1000, Disk: 5000})
}

func TestSumLeavesItsListAlone(t *testing.T) {
	l := someRes()
	kept := slices.Clone(l)
	first := quant.Sum(l...)
	if !slices.Equal(l, kept) {
		t.Error("Sum changed what was handed in")
	}
	slices.Reverse(l)
	holdRes(t, "Sum, turned round", quant.Sum(l...), first)
}

// Promise 1.4, member by member.

func TestPlusInAnyOrderAndGrouping(t *testing.T) {
	some := someRes()[:40]
	for _, a := range some {
		for _, b := range some {
			holdRes(t, "Plus, turned round", quant.Plus(a, b), quant.Plus(b, a))
			for _, c := range some {
				holdRes(t, "Plus, grouped otherwise", quant.Plus(quant.Plus(a, b), c), quant.Plus(a, quant.Plus(b, c)))
			}
		}
	}
}

// Promise 1.6.

func TestLessWantedFitsStill(t *testing.T) {
	for _, want := range someRes() {
		for _, free := range someRes() {
			fits := quant.Fits(want, free)
			for _, d := range []api.Res{{CPU: 1}, {Mem: 1}, {Disk: 1}, {CPU: 1500, Mem: 1500, Disk: 1500}, {CPU: most, Mem: most, Disk: most}} {
				if fits && !quant.Fits(quant.Minus(want, d), free) {
					t.Errorf("%v fits into %v, but not with %v less wanted", want, free, d)
				}
				if !fits && quant.Fits(want, quant.Minus(free, d)) {
					t.Errorf("%v does not fit into %v, but with %v less free", want, free, d)
				}
			}
		}
	}
}

func TestTakenAwayAndPutBack(t *testing.T) {
	for _, want := range someRes() {
		for _, free := range someRes() {
			if quant.Fits(want, free) {
				holdRes(t, "taken away and put back", quant.Plus(quant.Minus(free, want), want), clampRes(free))
			}
		}
	}
}
