package volume_test

import (
	"math/rand"
	"slices"
	"testing"

	"stevedore/api"
	"stevedore/volume"
)

// 10.1: the names of the volumes that are free, in the order of the state.
func TestFree(t *testing.T) {
	for _, c := range []struct {
		what string
		v    []api.Volume
		want []string
	}{
		{"no volumes", nil, nil},
		{"one", []api.Volume{vol("v", 1, "")}, []string{"v"}},
		{"none free", []api.Volume{vol("v", 1, "c"), vol("w", 1, "gone")}, nil},
		{"some", []api.Volume{vol("v", 1, ""), vol("w", 1, "c"), volIn("2", "x", 1, ""), {Name: "y"}}, []string{"v", "x", "y"}},
		{"names that do not rise", []api.Volume{vol("w", 1, ""), vol("10", 1, ""), vol("v", 1, ""), vol("9", 1, "")}, []string{"w", "10", "v", "9"}},
		{"twice, both free", []api.Volume{vol("v", 1, ""), vol("w", 1, ""), vol("v", 2, "")}, []string{"v", "w"}},
		{"twice, the first one free", []api.Volume{vol("v", 1, ""), vol("v", 2, "c")}, []string{"v"}},
		{"twice, the second one free", []api.Volume{vol("v", 1, "c"), vol("w", 1, ""), vol("v", 2, "")}, []string{"w"}},
	} {
		// What claims say does not count: a volume is free if its own Claim is empty.
		for _, claims := range [][]api.Claim{nil, {claim("c", 1, "v"), claim("d", 1, "")}} {
			s := state(claims, c.v...)
			if got := volume.Free(s); !slices.Equal(got, c.want) {
				t.Errorf("Free, %s: %v, want %v", c.what, got, c.want)
			}
		}
	}
	if got := volume.Free(api.State{}); len(got) != 0 {
		t.Errorf("Free of nothing: %v", got)
	}
}

// 10.3: what fits together, and what does not.
func TestCheck(t *testing.T) {
	claims := func(l ...api.Claim) []api.Claim { return l }
	for _, c := range []struct {
		what string
		s    api.State
		want int
	}{
		{"nothing", api.State{}, 0},
		{"nothing has anything", state(claims(claim("c", 1, ""), claim("d", 1, "")), vol("v", 1, ""), vol("w", 1, "")), 0},
		{"each other's", state(claims(claim("c", 1, "v"), claim("d", 1, "w")), vol("v", 1, "c"), vol("w", 1, "d")), 0},
		{"each other's, crosswise, and free ones", state(claims(claim("b", 1, ""), claim("c", 1, "w"), claim("d", 1, "v")), vol("v", 1, "d"), vol("w", 1, "c"), vol("x", 1, "")), 0},
		{"each other's, of other sizes and classes", api.State{Claims: claims(claim("c", 9, "v")), Volumes: []api.Volume{{Name: "v", Claim: "c"}}}, 0},
		{"a claim's volume is not there", state(claims(claim("c", 1, "v"))), 1},
		{"a claim's volume is not there, others are", state(claims(claim("c", 1, "x")), vol("v", 1, ""), vol("xx", 1, "")), 1},
		{"a claim's volume is free", state(claims(claim("c", 1, "v")), vol("v", 1, "")), 1},
		{"a volume's claim is not there", state(nil, vol("v", 1, "c")), 1},
		{"a volume's claim has none", state(claims(claim("c", 1, "")), vol("v", 1, "c")), 1},
		{"a volume's claim has another", state(claims(claim("c", 1, "w")), vol("v", 1, "c"), vol("w", 1, "c")), 1},
		{"a claim's volume is another's", state(claims(claim("c", 1, "v"), claim("d", 1, "v")), vol("v", 1, "d")), 1},
		{"crosswise", state(claims(claim("c", 1, "v"), claim("d", 1, "w")), vol("v", 1, "d"), vol("w", 1, "c")), 4},
		{"both, each of something not there", state(claims(claim("c", 1, "x")), vol("v", 1, "y")), 2},
		{"a ring of three", state(claims(claim("a", 1, "u"), claim("b", 1, "v"), claim("c", 1, "w")), vol("u", 1, "b"), vol("v", 1, "c"), vol("w", 1, "a")), 6},
		{"several of each", state(claims(claim("a", 1, "x"), claim("b", 1, "v"), claim("c", 1, ""), claim("d", 1, "w")), vol("u", 1, "y"), vol("v", 1, ""), vol("w", 1, "d"), vol("z", 1, "c")), 4},
		{"claims twice, the first one right", state(claims(claim("c", 1, "v"), claim("c", 1, "x")), vol("v", 1, "c")), 0},
		{"claims twice, the second one right", state(claims(claim("c", 1, "x"), claim("c", 1, "v")), vol("v", 1, "c")), 2},
		{"claims twice, the first one has none", state(claims(claim("c", 1, ""), claim("c", 1, "v")), vol("v", 1, "c")), 1},
		{"claims twice, just alike, nothing there", state(claims(claim("c", 1, "v"), claim("c", 1, "v"))), 1},
		{"volumes twice, the first one right", state(claims(claim("c", 1, "v")), vol("v", 1, "c"), vol("v", 1, "x")), 0},
		{"volumes twice, the second one right", state(claims(claim("c", 1, "v")), vol("v", 1, "x"), vol("v", 1, "c")), 2},
		{"volumes twice, the first one free", state(claims(claim("c", 1, "v")), vol("v", 1, ""), vol("v", 1, "c")), 1},
		{"volumes twice, just alike, nothing there", state(nil, vol("v", 1, "c"), vol("v", 1, "c")), 1},
	} {
		same(t, "Check, "+c.what, volume.Check(c.s), c.want)
		same(t, "by the words, "+c.what, checkByWords(c.s), c.want)
		// Classes, pods and nodes do not count.
		c.s.Classes = nil
		c.s.Pods = []api.Pod{{Name: "p", Claims: []string{"x"}, Node: "gone"}}
		same(t, "Check, without classes, "+c.what, volume.Check(c.s), c.want)
	}
}

// 10.1, 10.3: random ones, held against the words.
func TestRandomChecks(t *testing.T) {
	r := rand.New(rand.NewSource(104))
	seen := map[int]int{}
	for n := range 40000 {
		s := anyState(r)
		if n%5 == 0 {
			s = nameless(r, s)
		}
		got := volume.Check(s)
		if want := checkByWords(s); got != want {
			t.Fatalf("Check(%+v): %d, want %d", s, got, want)
		}
		if got, want := volume.Free(s), freeByWords(s); !slices.Equal(got, want) {
			t.Fatalf("Free(%+v): %v, want %v", s, got, want)
		}
		seen[got]++
	}
	for k := range 6 {
		if seen[k] < 100 {
			t.Errorf("drawn: %v", seen)
		}
	}
}
