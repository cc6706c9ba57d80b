package volume_test

import (
	"fmt"
	"math"
	"math/rand"
	"reflect"
	"slices"
	"strconv"
	"testing"

	"stevedore/api"
	"stevedore/volume"
)

// same holds two answers against each other (an empty list is as none).
func same(t *testing.T, what string, got, want any) {
	t.Helper()
	if g, w := fmt.Sprintf("%+v", got), fmt.Sprintf("%+v", want); g != w {
		t.Errorf("%s: %s, want %s", what, g, w)
	}
}

// waiting is a class that waits, k, and one that does not, now.
func waiting() []api.Class { return []api.Class{{Name: "k", Wait: true}, {Name: "now"}} }

// claim is of the class k.
func claim(name string, size int, has string) api.Claim {
	return api.Claim{Name: name, Size: size, Class: "k", Volume: has}
}

// vol is of the class k, on all nodes.
func vol(name string, size int, of string) api.Volume {
	return api.Volume{Name: name, Size: size, Class: "k", Claim: of}
}

// volIn is a volume of the class k, on nodes of a zone.
func volIn(zone, name string, size int, of string) api.Volume {
	v := vol(name, size, of)
	v.Reqs = []api.Req{{Key: "zone", Op: api.OpIn, Values: []string{zone}}}
	return v
}

func state(claims []api.Claim, volumes ...api.Volume) api.State {
	return api.State{Claims: claims, Volumes: volumes, Classes: waiting()}
}

// pod is p with those claims.
func pod(claims ...string) api.Pod { return api.Pod{Name: "p", Claims: claims} }

// node is in zone 1, and takes so many claims; used are those in use.
func node(disks int, used ...string) api.Info {
	n := api.Node{Name: "n", Labels: []api.Label{{Key: "zone", Value: "1"}}, Disks: disks}
	return api.Info{Node: n, Disks: used}
}

// picks is pairs of a claim and a volume.
func picks(names ...string) []api.Pick {
	var l []api.Pick
	for k := 0; k < len(names); k += 2 {
		l = append(l, api.Pick{Claim: names[k], Volume: names[k+1]})
	}
	return l
}

// planned asks for a plan with those picks.
func planned(t *testing.T, what string, p api.Pod, i api.Info, s api.State, names ...string) {
	t.Helper()
	told(t, what, p, i, s, 0, picks(names...))
}

// unplanned asks why there is no plan.
func unplanned(t *testing.T, what string, p api.Pod, i api.Info, s api.State, why int) {
	t.Helper()
	told(t, what, p, i, s, why, nil)
}

func told(t *testing.T, what string, p api.Pod, i api.Info, s api.State, why int, want []api.Pick) {
	t.Helper()
	l, got := volume.Plan(p, i, s)
	same(t, what+": Plan", []any{l, got}, []any{want, why})
	l, got = planByWords(p, i, s)
	same(t, what+": by the words", []any{l, got}, []any{want, why})
}

// firstOf is the place of the first one of that name; -1, if there is none.
func firstOf[T any](l []T, name func(T) string, wanted string) int {
	return slices.IndexFunc(l, func(x T) bool { return name(x) == wanted })
}

func claimAt(s api.State, name string) int {
	return firstOf(s.Claims, func(c api.Claim) string { return c.Name }, name)
}

func volumeAt(s api.State, name string) int {
	return firstOf(s.Volumes, func(v api.Volume) string { return v.Name }, name)
}

// meets knows the Ops that reqLists has, and one that there is not.
func meets(l []api.Label, reqs []api.Req) bool {
	for _, r := range reqs {
		k := firstOf(l, func(x api.Label) string { return x.Key }, r.Key)
		in := k >= 0 && slices.Contains(r.Values, l[k].Value)
		met := r.Op == api.OpIn && in || r.Op == api.OpNotIn && !in || r.Op == api.OpExists && k >= 0 || r.Op == api.OpLacks && k < 0
		if !met {
			return false
		}
	}
	return true
}

// planByWords is the chapter's sentences.
func planByWords(p api.Pod, i api.Info, s api.State) ([]api.Pick, int) {
	var out []api.Pick
	for n, name := range p.Claims {
		if slices.Contains(p.Claims[:n], name) {
			continue // a claim that stands twice gets one volume
		}
		at := claimAt(s, name)
		if at < 0 {
			return nil, api.WhyClaim
		}
		c := s.Claims[at]
		if c.Volume != "" {
			k := volumeAt(s, c.Volume)
			if k < 0 || s.Volumes[k].Claim != name {
				return nil, api.WhyClaim
			}
			if !meets(i.Node.Labels, s.Volumes[k].Reqs) {
				return nil, api.WhyVolume
			}
			continue
		}
		k := firstOf(s.Classes, func(c api.Class) string { return c.Name }, c.Class)
		if k < 0 || !s.Classes[k].Wait {
			return nil, api.WhyClaim
		}
		best := bestByWords(c, i, s, out)
		if best < 0 {
			return nil, api.WhyVolume
		}
		out = append(out, api.Pick{Claim: name, Volume: s.Volumes[best].Name})
	}
	all := slices.Concat(i.Disks, p.Claims)
	slices.Sort(all)
	if len(slices.Compact(all)) > i.Node.Disks {
		return nil, api.WhyDisks
	}
	return out, 0
}

// bestByWords is the place of the volume that a claim that waits gets; -1, if there is none.
func bestByWords(c api.Claim, i api.Info, s api.State, out []api.Pick) int {
	best := -1
	for k, v := range s.Volumes {
		picked := slices.ContainsFunc(out, func(x api.Pick) bool { return x.Volume == v.Name })
		if volumeAt(s, v.Name) != k || v.Claim != "" || picked || v.Class != c.Class || v.Size < c.Size || !meets(i.Node.Labels, v.Reqs) {
			continue
		}
		if best < 0 || v.Size < s.Volumes[best].Size || v.Size == s.Volumes[best].Size && v.Name < s.Volumes[best].Name {
			best = k
		}
	}
	return best
}

// copied is s with lists of claims and volumes of its own.
func copied(s api.State) api.State {
	s.Claims, s.Volumes = slices.Clone(s.Claims), slices.Clone(s.Volumes)
	return s
}

// applyByWords is the chapter's sentence.
func applyByWords(s api.State, l []api.Pick) (api.State, api.Errno) {
	s = copied(s)
	for _, x := range l {
		c, v := claimAt(s, x.Claim), volumeAt(s, x.Volume)
		if c < 0 || v < 0 {
			return api.State{}, api.ErrNone
		}
		if s.Claims[c].Volume != "" || s.Volumes[v].Claim != "" || s.Claims[c].Class != s.Volumes[v].Class || s.Volumes[v].Size < s.Claims[c].Size {
			return api.State{}, api.ErrArg
		}
		s.Claims[c].Volume, s.Volumes[v].Claim = x.Volume, x.Claim
	}
	return s, api.OK
}

// undoByWords is the chapter's sentence.
func undoByWords(s api.State, l []api.Pick) (api.State, api.Errno) {
	s = copied(s)
	for k := len(l) - 1; k >= 0; k-- {
		c, v := claimAt(s, l[k].Claim), volumeAt(s, l[k].Volume)
		if c < 0 || v < 0 {
			return api.State{}, api.ErrNone
		}
		if s.Claims[c].Volume != l[k].Volume || s.Volumes[v].Claim != l[k].Claim {
			return api.State{}, api.ErrArg
		}
		s.Claims[c].Volume, s.Volumes[v].Claim = "", ""
	}
	return s, api.OK
}

func checkByWords(s api.State) int {
	n := 0
	for k, c := range s.Claims {
		v := volumeAt(s, c.Volume)
		if claimAt(s, c.Name) == k && c.Volume != "" && (v < 0 || s.Volumes[v].Claim != c.Name) {
			n++
		}
	}
	for k, v := range s.Volumes {
		c := claimAt(s, v.Claim)
		if volumeAt(s, v.Name) == k && v.Claim != "" && (c < 0 || s.Claims[c].Volume != v.Name) {
			n++
		}
	}
	return n
}

func freeByWords(s api.State) []string {
	var out []string
	for k, v := range s.Volumes {
		if v.Claim == "" && volumeAt(s, v.Name) == k {
			out = append(out, v.Name)
		}
	}
	return out
}

func oneOf[T any](r *rand.Rand, l []T) T { return l[r.Intn(len(l))] }

func reqLists() [][]api.Req {
	in := func(values ...string) []api.Req { return []api.Req{{Key: "zone", Op: api.OpIn, Values: values}} }
	return [][]api.Req{
		nil, nil, nil, {}, in("1"), in("1"), in("2"), in("2", "1"), {{Key: "zone", Op: api.OpNotIn, Values: []string{"2"}}}, {{Key: "zone", Op: api.OpExists}},
		{{Key: "zone", Op: api.OpLacks}}, append(in("1"), api.Req{Key: "rack", Op: api.OpLacks}), {{Key: "zone", Op: 9}},
	}
}

func labelLists() [][]api.Label {
	zone := func(v string) []api.Label { return []api.Label{{Key: "zone", Value: v}} }
	return [][]api.Label{nil, zone("1"), zone("1"), zone("2"), append(zone("1"), zone("2")...), append(zone("1"), api.Label{Key: "rack"})}
}

func sizes() []int {
	return []int{0, 1, 1, 2, 2, 2, 3, 3, 4, -1, -2, api.MaxAmount, api.MaxAmount + 1, math.MaxInt, math.MinInt}
}

func claimNames() []string { return []string{"a", "b", "c", "d", "e", "10", "9"} }

func volumeNames() []string { return []string{"a", "b", "v", "w", "x", "10", "9", "v1", "v2"} }

func classNames() []string { return []string{"k", "k", "k", "k", "k", "now", "none", ""} }

// randomState has names that stand twice, that do not rise, and claims and volumes of which some are each other's.
func randomState(r *rand.Rand) api.State {
	s := api.State{Classes: oneOf(r, [][]api.Class{waiting(), waiting(), {{Name: "k", Wait: true}, {Name: "k"}}, {{Name: "k"}, {Name: "k", Wait: true}}, {{Wait: true}, {Name: "k", Wait: true}}, nil})}
	for range r.Intn(7) {
		s.Claims = append(s.Claims, api.Claim{Name: oneOf(r, claimNames()), Size: oneOf(r, sizes()), Class: oneOf(r, classNames())})
	}
	for range r.Intn(9) {
		s.Volumes = append(s.Volumes, api.Volume{Name: oneOf(r, volumeNames()), Size: oneOf(r, sizes()), Class: oneOf(r, classNames()), Reqs: oneOf(r, reqLists())})
	}
	for k := range s.Claims {
		if r.Intn(4) == 0 {
			s.Claims[k].Volume = oneOf(r, volumeNames())
		}
	}
	for k := range s.Volumes {
		if r.Intn(5) == 0 {
			s.Volumes[k].Claim = oneOf(r, claimNames())
		}
	}
	return paired(r, s)
}

// paired makes some that are there each other's.
func paired(r *rand.Rand, s api.State) api.State {
	for range r.Intn(4) {
		if len(s.Claims) > 0 && len(s.Volumes) > 0 {
			c, v := r.Intn(len(s.Claims)), r.Intn(len(s.Volumes))
			s.Claims[c].Volume, s.Volumes[v].Claim = s.Volumes[v].Name, s.Claims[c].Name
		}
	}
	return s
}

// soundState has each name once, all of the class k, and nothing that does not fit together.
func soundState(r *rand.Rand) api.State {
	s := api.State{Classes: waiting()}
	for _, name := range claimNames() {
		if r.Intn(3) > 0 {
			s.Claims = append(s.Claims, claim(name, r.Intn(3), ""))
		}
	}
	for _, name := range volumeNames() {
		if r.Intn(5) > 0 {
			v := vol(name, r.Intn(5), "")
			v.Reqs = oneOf(r, reqLists())
			s.Volumes = append(s.Volumes, v)
		}
	}
	for range r.Intn(8) {
		if len(s.Claims) > 0 && len(s.Volumes) > 0 {
			c, v := r.Intn(len(s.Claims)), r.Intn(len(s.Volumes))
			if s.Claims[c].Volume == "" && s.Volumes[v].Claim == "" {
				s.Claims[c].Volume, s.Volumes[v].Claim = s.Volumes[v].Name, s.Claims[c].Name
			}
		}
	}
	return s
}

// doubled is s with a second one of some names behind the first ones.
func doubled(r *rand.Rand, s api.State) api.State {
	for _, c := range s.Claims {
		if r.Intn(3) == 0 {
			s.Claims = append(s.Claims, api.Claim{Name: c.Name, Class: oneOf(r, classNames()), Volume: oneOf(r, append(volumeNames(), "", "", ""))})
		}
	}
	for _, v := range s.Volumes {
		if r.Intn(3) == 0 {
			s.Volumes = append(s.Volumes, api.Volume{Name: v.Name, Size: oneOf(r, sizes()), Class: "k", Claim: oneOf(r, append(claimNames(), "", "", ""))})
		}
	}
	return s
}

// anyState is sound, or sound as far as it counts, or not.
func anyState(r *rand.Rand) api.State {
	switch r.Intn(4) {
	case 0:
		return soundState(r)
	case 1:
		return doubled(r, soundState(r))
	}
	return randomState(r)
}

// nameless takes names off some claims and volumes.
func nameless(r *rand.Rand, s api.State) api.State {
	for k := range s.Claims {
		if r.Intn(4) == 0 {
			s.Claims[k].Name = ""
		}
	}
	for k := range s.Volumes {
		if r.Intn(4) == 0 {
			s.Volumes[k].Name = ""
		}
	}
	return s
}

// randomPod has claims that are there, most of them, and some twice.
func randomPod(r *rand.Rand, s api.State) api.Pod {
	var l []string
	for range r.Intn(4) {
		if len(s.Claims) > 0 && r.Intn(12) > 0 {
			l = append(l, oneOf(r, s.Claims).Name)
		} else {
			l = append(l, oneOf(r, claimNames()))
		}
	}
	return pod(l...)
}

func randomInfo(r *rand.Rand) api.Info {
	i := api.Info{Node: api.Node{Name: "n", Labels: oneOf(r, labelLists()), Disks: oneOf(r, []int{0, 1, 2, 3, 4, 9, 9, 9, -1, math.MaxInt, math.MinInt})}}
	for range r.Intn(4) {
		i.Disks = append(i.Disks, oneOf(r, append(claimNames(), "x"+strconv.Itoa(r.Intn(3)))))
	}
	return i
}

// randomPicks are picks of which many may not be.
func randomPicks(r *rand.Rand, s api.State) []api.Pick {
	var l []api.Pick
	for range r.Intn(4) {
		x := api.Pick{Claim: oneOf(r, append(claimNames(), "")), Volume: oneOf(r, append(volumeNames(), ""))}
		if len(s.Claims) > 0 && r.Intn(10) > 0 {
			x.Claim = oneOf(r, s.Claims).Name
		}
		if len(s.Volumes) > 0 && r.Intn(10) > 0 {
			v := oneOf(r, s.Volumes)
			x.Volume = v.Name
			if v.Claim != "" && r.Intn(4) > 0 {
				x.Claim = v.Claim
			}
		}
		l = append(l, x)
	}
	return l
}

// opened is x copied with nothing shared, each list as long as its room: what stands behind the ends is seen, too.
func opened[T any](x T) T { return deep(reflect.ValueOf(x)).Interface().(T) }

func deep(v reflect.Value) reflect.Value {
	out := reflect.New(v.Type()).Elem()
	switch v.Kind() {
	case reflect.Struct:
		for k := range v.NumField() {
			out.Field(k).Set(deep(v.Field(k)))
		}
	case reflect.Slice:
		if v.IsNil() {
			break
		}
		v = v.Slice(0, v.Cap())
		out.Set(reflect.MakeSlice(v.Type(), v.Len(), v.Len()))
		for k := range v.Len() {
			out.Index(k).Set(deep(v.Index(k)))
		}
	default:
		out.Set(v)
	}
	return out
}

// roomy is l with room behind it, in which there is something.
func roomy[T any](l []T, behind T) []T { return append(slices.Clone(l), behind, behind)[:len(l)] }

// fullState is s with something of each kind, and room behind each list.
func fullState(s api.State) api.State {
	return api.State{
		Pods:    roomy([]api.Pod{{Name: "q", Claims: []string{"c"}, Labels: []api.Label{{Key: "a"}}}, {Name: "p"}}, api.Pod{Name: "behind"}),
		Nodes:   roomy([]api.Node{{Name: "n", Disks: 3, Labels: []api.Label{{Key: "zone", Value: "1"}}}}, api.Node{Name: "behind"}),
		Volumes: roomy(s.Volumes, api.Volume{Name: "behind", Class: "k"}),
		Claims:  roomy(s.Claims, api.Claim{Name: "behind", Class: "k"}),
		Classes: roomy(s.Classes, api.Class{Name: "behind", Wait: true}),
		Budgets: roomy([]api.Budget{{Name: "b", Least: 2}}, api.Budget{Name: "behind"}),
	}
}

// scribble writes into each list of a state.
func scribble(s api.State) {
	scrawl(s.Pods, api.Pod{Name: "scribbled"})
	scrawl(s.Nodes, api.Node{Name: "scribbled"})
	scrawl(s.Volumes, api.Volume{Name: "scribbled"})
	scrawl(s.Claims, api.Claim{Name: "scribbled"})
	scrawl(s.Classes, api.Class{Name: "scribbled"})
	scrawl(s.Budgets, api.Budget{Name: "scribbled"})
}

// scrawl writes behind the end of a list, too.
func scrawl[T any](l []T, x T) {
	l = l[:cap(l)]
	for k := range l {
		l[k] = x
	}
}
