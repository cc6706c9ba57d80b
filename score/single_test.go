package score_test

import (
	"math"
	"math/rand"
	"testing"

	"stevedore/api"
	"stevedore/info"
	"stevedore/score"
)

// Promise 16.1: Least and Even.

func TestExampleOfTheChapter(t *testing.T) {
	p, i := wanting(two(1000, 1000)), using(two(4000, 4000), two(1000, 0))
	holds(t, "Least", score.Least(p, i), 62)
	holds(t, "Even", score.Even(p, i), 75)
}

func TestLeastAndEvenNamedEdges(t *testing.T) {
	for _, c := range []struct {
		what             string
		give, used, want api.Res
		least, even      int
	}{
		{"nothing used, nothing wanted", two(4000, 4000), two(0, 0), two(0, 0), 100, 100},
		{"a pod that wants nothing", two(4000, 4000), two(1000, 3000), two(0, 0), 50, 50},
		{"the half is rounded down", two(4, 4), two(1, 2), two(1, 0), 50, 100},
		{"62 and a half", two(4, 4), two(0, 0), two(2, 1), 62, 75},
		{"half of 1", two(100, 100), two(99, 100), two(0, 0), 0, 99},
		{"half of 199", two(100, 100), two(0, 1), two(0, 0), 99, 99},
		{"each share is rounded down for itself", two(3, 3), two(2, 1), two(0, 0), 49, 67},
		{"each share is rounded down for itself, wanted", two(3, 3), two(0, 0), two(1, 2), 49, 67},
		{"shares just below a whole", two(1000, 1000), two(1, 0), two(0, 9), 99, 100},
		{"more CPU than memory", two(10, 10), two(7, 2), two(1, 1), 45, 50},
		{"more memory than CPU", two(10, 10), two(2, 7), two(1, 1), 45, 50},
		{"all of CPU, nothing of memory", two(10, 10), two(10, 0), two(0, 0), 50, 0},
		{"all of memory, nothing of CPU", two(10, 10), two(0, 0), two(0, 10), 50, 0},
		{"just all", two(10, 20), two(4, 5), two(6, 15), 0, 100},
		{"just all, and one of each more", two(10, 20), two(4, 5), two(7, 16), 0, 100},

		{"gives nothing of CPU", two(0, 4), two(0, 1), two(0, 1), 25, 50},
		{"gives nothing of CPU, some is wanted", two(0, 4), two(3, 1), two(5, 1), 25, 50},
		{"gives nothing of memory", two(4, 0), two(1, 0), two(0, 0), 37, 75},
		{"gives nothing of memory, some is wanted", two(4, 0), two(1, 9), two(0, 9), 37, 75},
		{"gives nothing of both", two(0, 0), two(0, 0), two(0, 0), 0, 100},
		{"gives nothing of both, some is wanted", two(0, 0), two(0, 7), two(9, 0), 0, 100},

		{"more used than given", two(4, 4), two(5, 1), two(0, 0), 37, 25},
		{"much more used than given", two(4, 4), two(900, 1), two(0, 1), 25, 50},
		{"more used than given of both", two(4, 4), two(8, 90), two(0, 0), 0, 100},
		{"more wanted than given", two(4, 4), two(0, 0), two(9, 1), 37, 25},
		{"more wanted than free", two(4, 4), two(3, 1), two(3, 1), 25, 50},
		{"a want does not give back what is used above what is given", two(4, 4), two(9, 0), two(-7, 0), 50, 0},

		{"wanted at MaxAmount", two(4, 4), two(0, 1), two(most, 0), 37, 25},
		{"wanted beyond MaxAmount", two(4, 4), two(0, 1), two(math.MaxInt, 0), 37, 25},
		{"used at MaxAmount", two(4, 4), two(most, 1), two(0, 0), 37, 25},
		{"used beyond MaxAmount", two(4, 4), two(math.MaxInt, 1), two(0, 0), 37, 25},
		{"both at MaxAmount", two(4, 4), two(most, most), two(most, most), 0, 100},
		{"both beyond MaxAmount", two(4, 4), two(math.MaxInt, math.MaxInt), two(math.MaxInt, math.MaxInt), 0, 100},
		{"all at MaxAmount", two(most, most), two(most, most), two(most, most), 0, 100},
		{"MaxAmount is given, half is used", two(most, most), two(most/2, 0), two(0, most/4), 62, 75},
		{"MaxAmount is given, one is used", two(most, most), two(1, 0), two(0, 1), 99, 100},
		{"given beyond MaxAmount counts as that", two(math.MaxInt, most+1), two(most/2, most), two(0, 0), 25, 50},
		{"used beyond what counts of given", two(most+8, most), two(most, 0), two(4, 0), 50, 0},
		{"wanted beyond what is given, at MaxAmount", two(most, most), two(0, 0), two(most+1, most-1), 0, 99},

		{"given below 0 is nothing", two(-4, math.MinInt), two(0, 0), two(0, 0), 0, 100},
		{"given and used below 0", two(-4, 4), two(-8, 1), two(0, 0), 37, 75},
		{"used below 0 is nothing", two(4, 4), two(-4, math.MinInt), two(1, 0), 87, 75},
		{"wanted below 0 is nothing", two(4, 4), two(1, 2), two(-1, math.MinInt), 62, 75},
		{"used and wanted below 0", two(4, 4), two(-1, -2), two(-3, -4), 100, 100},
	} {
		p, i := wanting(c.want), using(c.give, c.used)
		holds(t, c.what+": Least", score.Least(p, i), c.least)
		holds(t, c.what+": Even", score.Even(p, i), c.even)
	}
}

func TestLeastAndEvenAgainstExactSums(t *testing.T) {
	for _, give := range amounts() {
		for _, used := range amounts() {
			for _, want := range amounts() {
				// Of the other member half is free then, and half used.
				for _, c := range []struct {
					p api.Pod
					i api.Info
				}{
					{wanting(two(want, 3)), using(two(give, 10), two(used, 2))},
					{wanting(two(3, want)), using(two(10, give), two(2, used))},
					{wanting(two(want, want)), using(two(give, give), two(used, used))},
				} {
					if got, w := score.Least(c.p, c.i), leastByWords(c.p, c.i); got != w {
						t.Fatalf("Least of %+v, %+v: %d, want %d", c.p.Want, c.i, got, w)
					}
					if got, w := score.Even(c.p, c.i), evenByWords(c.p, c.i); got != w {
						t.Fatalf("Even of %+v, %+v: %d, want %d", c.p.Want, c.i, got, w)
					}
				}
			}
		}
	}
}

func TestRandomLeastAndEven(t *testing.T) {
	r := rand.New(rand.NewSource(161))
	least, even := map[int]int{}, map[int]int{}
	for k := range 20000 {
		from := small()
		if k%2 == 0 {
			from = amounts()
		}
		p, i := randomPod(r, from), randomInfo(r, from)
		a, b := score.Least(p, i), score.Even(p, i)
		if x, y := leastByWords(p, i), evenByWords(p, i); a != x || b != y {
			t.Fatalf("%+v %+v: %d %d, want %d %d", p, i, a, b, x, y)
		}
		least[a]++
		even[b]++
	}
	if len(least) < 30 || len(even) < 30 {
		t.Errorf("drawn: %v, %v", least, even)
	}
}

// What is used is all that counts of who stands there: disks, names, ports and claims do not.
func TestLeastAndEvenHangOnCPUAndMemory(t *testing.T) {
	p := wanting(api.Res{CPU: 1000, Mem: 1000, Disk: 3})
	i := info.Of(api.Node{Name: "n", Give: api.Res{CPU: 4000, Mem: 4000, Disk: 9}}, api.Pod{Name: "a", Want: api.Res{CPU: 1000}})
	holds(t, "Least", score.Least(p, i), 62)
	holds(t, "Even", score.Even(p, i), 75)
	p.Want.Disk, p.Node, p.Priority = most, "n", 9
	i.Node.Give.Disk, i.Used.Disk = 1, most
	i.Node.Off, i.Node.Pods, i.Node.Disks = true, -1, -1
	i.Names, i.Ports, i.Disks = []string{"p", "p"}, []int{80}, []string{"c"}
	i.Node.Taints, i.Node.Labels = shy(3), []api.Label{{Key: "zone"}}
	holds(t, "Least of what counts", score.Least(p, i), 62)
	holds(t, "Even of what counts", score.Even(p, i), 75)
}

// CPU and memory are held against what is given of each, and count alike.
func TestLeastAndEvenTurnedRound(t *testing.T) {
	r := rand.New(rand.NewSource(162))
	turned := func(x api.Res) api.Res { return api.Res{CPU: x.Mem, Mem: x.CPU, Disk: x.Disk} }
	for range 5000 {
		p, i := randomPod(r, small()), randomInfo(r, small())
		q, j := p, i
		q.Want, j.Used, j.Node.Give = turned(p.Want), turned(i.Used), turned(i.Node.Give)
		if a, b := score.Least(p, i), score.Least(q, j); a != b {
			t.Fatalf("Least: %d, turned round %d", a, b)
		}
		if a, b := score.Even(p, i), score.Even(q, j); a != b {
			t.Fatalf("Even: %d, turned round %d", a, b)
		}
	}
}
