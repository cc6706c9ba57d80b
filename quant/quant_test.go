package quant_test

import (
	"math"
	"math/big"
	"regexp"
	"strings"
	"testing"

	"stevedore/api"
	"stevedore/quant"
)

const most = api.MaxAmount

// edges are numbers at, around and far from the bounds.
func edges() []int {
	return []int{
		math.MinInt, math.MinInt + 1, -api.MaxAmount - 1, -api.MaxAmount, -1000, -1,
		0, 1, 2, 3, 37, 999, 1000, 1001, 1500, 4000, 1 << 25, 1<<25 + 1, 1<<25 - 1, 1 << 40,
		api.MaxAmount / 1000 * 1000, api.MaxAmount/2 - 1, api.MaxAmount / 2, api.MaxAmount/2 + 1,
		api.MaxAmount - 1, api.MaxAmount, api.MaxAmount + 1, math.MaxInt - 1, math.MaxInt,
	}
}

// exact does sums without bounds, so that nothing of the package's own care is taken for granted.
func exact(n int) *big.Int { return big.NewInt(int64(n)) }

// counts is what n counts as, with the bounds from lo to hi.
func counts(n *big.Int, lo, hi int) *big.Int {
	if n.Cmp(exact(lo)) < 0 {
		return exact(lo)
	}
	if n.Cmp(exact(hi)) > 0 {
		return exact(hi)
	}
	return n
}

func amountOf(n *big.Int) *big.Int { return counts(n, 0, api.MaxAmount) }

func hold(t *testing.T, what string, got int, want *big.Int, args ...int) {
	t.Helper()
	if exact(got).Cmp(want) != 0 {
		t.Errorf("%s%v: %d, want %v", what, args, got, want)
	}
}

// Promise 1.1.

func TestClampNamedEdges(t *testing.T) {
	for _, c := range []struct{ a, want int }{
		{math.MinInt, 0}, {-1, 0}, {0, 0}, {1, 1}, {1500, 1500},
		{1<<50 - 1, 1<<50 - 1}, {1 << 50, 1 << 50}, {1<<50 + 1, 1 << 50}, {math.MaxInt, 1 << 50},
	} {
		if got := quant.Clamp(c.a); got != c.want {
			t.Errorf("Clamp(%d): %d, want %d", c.a, got, c.want)
		}
	}
}

func TestAddSubTimesNamedEdges(t *testing.T) {
	for _, c := range []struct {
		what      string
		got, want int
	}{
		{"Add(2, 3)", quant.Add(2, 3), 5},
		{"Add(0, 0)", quant.Add(0, 0), 0},
		{"Add(-5, 3)", quant.Add(-5, 3), 3},
		{"Add(most, 1)", quant.Add(most, 1), most},
		{"Add(most - 1, 1)", quant.Add(most-1, 1), most},
		{"Add(most + 7, -7)", quant.Add(most+7, -7), most},
		{"Add of the greatest ints", quant.Add(math.MaxInt, math.MaxInt), most},
		{"Add of the least ints", quant.Add(math.MinInt, math.MinInt), 0},
		{"Sub(5, 3)", quant.Sub(5, 3), 2},
		{"Sub(3, 5)", quant.Sub(3, 5), 0},
		{"Sub(3, -5)", quant.Sub(3, -5), 3},
		{"Sub(-3, -5)", quant.Sub(-3, -5), 0},
		{"Sub(most + 9, most)", quant.Sub(most+9, most), 0},
		{"Sub(most + 9, 9)", quant.Sub(most+9, 9), most - 9},
		{"Sub of the ends", quant.Sub(math.MaxInt, math.MinInt), most},
		{"Sub of the ends, turned", quant.Sub(math.MinInt, math.MaxInt), 0},
		{"Times(250, 4)", quant.Times(250, 4), 1000},
		{"Times(7, 0)", quant.Times(7, 0), 0},
		{"Times(0, most)", quant.Times(0, most), 0},
		{"Times(7, -1)", quant.Times(7, -1), 0},
		{"Times(-7, -1)", quant.Times(-7, -1), 0},
		{"Times(1 << 25, 1 << 25)", quant.Times(1<<25, 1<<25), most},
		{"Times(1 << 32, 1 << 32)", quant.Times(1<<32, 1<<32), most},
		{"Times(1 << 40, 1 << 40)", quant.Times(1<<40, 1<<40), most},
		{"Times(most, 1)", quant.Times(most, 1), most},
		{"Times(most / 3, 3)", quant.Times(most/3, 3), most / 3 * 3},
		{"Times(most/3 + 1, 3)", quant.Times(most/3+1, 3), most},
		{"Times of the greatest ints", quant.Times(math.MaxInt, math.MaxInt), most},
	} {
		if c.got != c.want {
			t.Errorf("%s: %d, want %d", c.what, c.got, c.want)
		}
	}
}

func TestShareNamedEdges(t *testing.T) {
	for _, c := range []struct{ a, of, scale, want int }{
		{1500, 4000, 100, 37},
		{9, 4, 100, 100},
		{4, 4, 100, 100},
		{3, 4, 100, 75},
		{0, 4, 100, 0},
		{5, 0, 100, 0},
		{0, 0, 100, 0},
		{5, -4, 100, 0},
		{-5, 4, 100, 0},
		{-5, -4, 100, 0},
		{1, 2, 0, 0},
		{9, 2, 0, 0},
		{1, 2, -1, 0},
		{9, 2, math.MinInt, 0},
		{1, 2, 1000, 500},
		{1, 2, 1001, 500},
		{9, 2, 1001, 1000},
		{9, 2, math.MaxInt, 1000},
		{1, 3, 1000, 333},
		{2, 3, 1000, 666},
		{999, 1000, 1, 0},
		{most, most, 1000, 1000},
		{most - 1, most, 1000, 999},
		{most, 1, 1000, 1000},
		{1, most, 1000, 0},
		{math.MaxInt, math.MaxInt, 1000, 1000},
		{most / 2, math.MaxInt, 1000, 500},
	} {
		if got := quant.Share(c.a, c.of, c.scale); got != c.want {
			t.Errorf("Share(%d, %d, %d): %d, want %d", c.a, c.of, c.scale, got, c.want)
		}
	}
}

func TestAmountsAgainstExactSums(t *testing.T) {
	for _, a := range edges() {
		x := amountOf(exact(a))
		hold(t, "Clamp", quant.Clamp(a), x, a)
		for _, b := range edges() {
			y := amountOf(exact(b))
			hold(t, "Add", quant.Add(a, b), amountOf(new(big.Int).Add(x, y)), a, b)
			hold(t, "Sub", quant.Sub(a, b), amountOf(new(big.Int).Sub(x, y)), a, b)
			hold(t, "Times", quant.Times(a, b), amountOf(new(big.Int).Mul(x, y)), a, b)
			for _, scale := range edges() {
				hold(t, "Share", quant.Share(a, b, scale), exactShare(x, y, scale), a, b, scale)
			}
		}
	}
}

func exactShare(a, of *big.Int, scale int) *big.Int {
	s := counts(exact(scale), 0, 1000)
	if of.Sign() == 0 {
		return exact(0)
	}
	n := new(big.Int).Mul(a, s)
	return counts(n.Div(n, of), 0, int(s.Int64()))
}

// Promise 1.2.

func TestParseReads(t *testing.T) {
	for _, c := range []struct {
		s    string
		want int
	}{
		{"0", 0}, {"0m", 0}, {"1", 1000}, {"1m", 1}, {"2", 2000}, {"9m", 9}, {"10", 10000}, {"10m", 10},
		{"1500m", 1500}, {"1000m", 1000}, {"105", 105000}, {"1234567890m", 1234567890},
		{"1125899906842", 1125899906842000},
		{"1125899906842623m", api.MaxAmount - 1},
		{"1125899906842624m", api.MaxAmount},
	} {
		if n, e := quant.Parse(c.s); n != c.want || e != api.OK {
			t.Errorf("Parse(%q): %d, %d, want %d, OK", c.s, n, e, c.want)
		}
	}
}

func TestParseRefusesWhatIsNoAmount(t *testing.T) {
	for _, s := range []string{
		"", "m", "mm", "1mm", "1M", "m1", "1m1", "1k", "a", "0x1", "1e3",
		"00", "01", "00m", "01m", "0000000000000000", "01125899906842625m",
		"-1", "+1", "-0", "-1m", " 1", "1 ", "1 m", "1\n", "\x001", "1\x00",
		"1.5", "1_000", "1,000", "/", ":", "1/", "1:",
		"\u0661", "1\u0661", "\uff11", "\xff", "1\xff",
		"12345678901234567", "12345678901234567m", "10000000000000000", "00000000000000001",
		"9223372036854775808", "18446744073709551617m", strings.Repeat("9", 1000), strings.Repeat("9", 1000) + "m",
	} {
		if n, e := quant.Parse(s); n != 0 || e != api.ErrArg {
			t.Errorf("Parse(%q): %d, %d, want 0, ErrArg", s, n, e)
		}
	}
}

func TestParseRefusesAmountsThatAreTooGreat(t *testing.T) {
	for _, s := range []string{
		"1125899906843", "1125899906842624", "1125899906842625m",
		"9999999999999999", "9999999999999999m", "1000000000000000", "1125899906843000m",
		"9223372036854776", "9223372036854775", "1844674407370956",
	} {
		if n, e := quant.Parse(s); n != 0 || e != api.ErrLong {
			t.Errorf("Parse(%q): %d, %d, want 0, ErrLong", s, n, e)
		}
	}
}

func TestParseOfAllShortTexts(t *testing.T) {
	form := regexp.MustCompile(`\A(0|[1-9][0-9]{0,15})(m?)\z`)
	texts := []string{""}
	for from := 0; len(texts[from]) < 5; from++ {
		for _, c := range []string{"0", "1", "9", "m", "-", "."} {
			texts = append(texts, texts[from]+c)
		}
	}
	for _, s := range texts {
		want, fault := 0, api.ErrArg
		if f := form.FindStringSubmatch(s); f != nil {
			n, _ := new(big.Int).SetString(f[1], 10)
			want, fault = int(n.Int64()), api.OK
			if f[2] == "" {
				want *= 1000
			}
		}
		if n, e := quant.Parse(s); n != want || e != fault {
			t.Errorf("Parse(%q): %d, %d, want %d, %d", s, n, e, want, fault)
		}
	}
}

func TestPrint(t *testing.T) {
	for _, c := range []struct {
		a    int
		want string
	}{
		{0, "0"}, {1, "1m"}, {999, "999m"}, {1000, "1"}, {1001, "1001m"}, {1500, "1500m"}, {2000, "2"}, {10000, "10"},
		{-1, "0"}, {-1500, "0"}, {math.MinInt, "0"},
		{1125899906842000, "1125899906842"},
		{api.MaxAmount, "1125899906842624m"}, {api.MaxAmount + 1, "1125899906842624m"}, {math.MaxInt, "1125899906842624m"},
	} {
		if got := quant.Print(c.a); got != c.want {
			t.Errorf("Print(%d): %q, want %q", c.a, got, c.want)
		}
	}
}

// Promise 1.4.

func TestAddInAnyOrderAndGrouping(t *testing.T) {
	for _, a := range edges() {
		for _, b := range edges() {
			if quant.Add(a, b) != quant.Add(b, a) {
				t.Errorf("Add(%d, %d) is not the same turned round", a, b)
			}
			for _, c := range edges() {
				if quant.Add(quant.Add(a, b), c) != quant.Add(a, quant.Add(b, c)) {
					t.Errorf("Add of %d, %d, %d hangs on the grouping", a, b, c)
				}
			}
		}
	}
}

func TestSubOfAddGivesBack(t *testing.T) {
	for _, a := range edges() {
		for _, b := range edges() {
			if quant.Clamp(a)+quant.Clamp(b) > api.MaxAmount {
				continue
			}
			if got := quant.Sub(quant.Add(a, b), b); got != quant.Clamp(a) {
				t.Errorf("Sub(Add(%d, %d), %d): %d, want %d", a, b, b, got, quant.Clamp(a))
			}
		}
	}
}

// Promise 1.5.

func TestPrintAndParseLeadBack(t *testing.T) {
	numbers := edges()
	for n := range 5000 {
		numbers = append(numbers, n, api.MaxAmount-n)
	}
	for _, a := range numbers {
		if n, e := quant.Parse(quant.Print(a)); n != quant.Clamp(a) || e != api.OK {
			t.Errorf("Parse(Print(%d)): %d, %d", a, n, e)
		}
	}
	for _, s := range []string{"0", "1", "2", "1500m", "1m", "999m", "1001m", "1125899906842", "1125899906842624m"} {
		if n, e := quant.Parse(s); e != api.OK || quant.Print(n) != s {
			t.Errorf("Print(Parse(%q)): %q, %d", s, quant.Print(n), e)
		}
	}
	for _, c := range []struct{ s, plain string }{{"0m", "0"}, {"2000m", "2"}, {"1000m", "1"}} {
		if n, _ := quant.Parse(c.s); quant.Print(n) != c.plain {
			t.Errorf("Print(Parse(%q)): %q, want %q", c.s, quant.Print(n), c.plain)
		}
	}
}

// P1: no text makes Parse panic, and beside an error the amount is 0.

func FuzzParse(f *testing.F) {
	for _, s := range []string{"", "m", "0", "1500m", "1125899906843", "9999999999999999", "\xff", "12345678901234567m"} {
		f.Add(s)
	}
	f.Fuzz(func(t *testing.T, s string) {
		n, e := quant.Parse(s)
		if e != api.OK && (n != 0 || e != api.ErrArg && e != api.ErrLong) {
			t.Errorf("Parse(%q): %d, %d", s, n, e)
		}
		if e == api.OK && n != quant.Clamp(n) {
			t.Errorf("Parse(%q): %d is no amount", s, n)
		}
	})
}
