package info_test

import (
	"math"
	"math/big"
	"math/rand"
	"reflect"
	"slices"
	"sort"
	"strconv"
	"testing"

	"stevedore/api"
)

const most = api.MaxAmount

func node(name string, give api.Res) api.Node {
	return api.Node{
		Name: name, Give: give, Pods: 7, Disks: 8, Off: true,
		Labels: []api.Label{{Key: "zone", Value: name}}, Taints: []api.Taint{{Key: "gpu", Value: "yes", Effect: api.EffectShy}},
	}
}

func pod(name string, cpu int, ports []int, claims ...string) api.Pod {
	return api.Pod{Name: name, Want: api.Res{CPU: cpu}, Ports: ports, Claims: claims}
}

// on is p, bound to a node.
func on(where string, p api.Pod) api.Pod {
	p.Node = where
	return p
}

// sumByWords counts as the first chapter does, without a bound but the one at the end.
func sumByWords(l []int) int {
	sum := new(big.Int)
	for _, a := range l {
		sum.Add(sum, big.NewInt(int64(min(max(a, 0), most))))
	}
	if sum.Cmp(big.NewInt(most)) > 0 {
		return most
	}
	return int(sum.Int64())
}

// infoByWords is the chapter's sentence: names, sums, ports and claims, of each name's first one.
func infoByWords(n api.Node, pods []api.Pod) api.Info {
	names, ports, disks := map[string]bool{}, map[int]bool{}, map[string]bool{}
	var cpu, mem, disk []int
	for _, p := range pods {
		if names[p.Name] {
			continue
		}
		names[p.Name] = true
		for _, port := range p.Ports {
			ports[port] = true
		}
		for _, claim := range p.Claims {
			disks[claim] = true
		}
		cpu, mem, disk = append(cpu, p.Want.CPU), append(mem, p.Want.Mem), append(disk, p.Want.Disk)
	}
	i := api.Info{Node: n, Used: api.Res{CPU: sumByWords(cpu), Mem: sumByWords(mem), Disk: sumByWords(disk)}}
	for name := range names {
		i.Names = append(i.Names, name)
	}
	for port := range ports {
		i.Ports = append(i.Ports, port)
	}
	for claim := range disks {
		i.Disks = append(i.Disks, claim)
	}
	sort.Strings(i.Names)
	sort.Ints(i.Ports)
	sort.Strings(i.Disks)
	return i
}

// allByWords goes by each pod and each node that no earlier one of its name hides.
func allByWords(s api.State) []api.Info {
	var out []api.Info
	for k, n := range s.Nodes {
		if slices.ContainsFunc(s.Nodes[:k], func(m api.Node) bool { return m.Name == n.Name }) {
			continue
		}
		var there []api.Pod
		for j, p := range s.Pods {
			hidden := slices.ContainsFunc(s.Pods[:j], func(q api.Pod) bool { return q.Name == p.Name })
			if !hidden && p.Node != "" && p.Node == n.Name {
				there = append(there, p)
			}
		}
		out = append(out, infoByWords(n, there))
	}
	return out
}

// plain is i with nil for lists without members, which may be told either way.
func plain(i api.Info) api.Info {
	if len(i.Names) == 0 {
		i.Names = nil
	}
	if len(i.Ports) == 0 {
		i.Ports = nil
	}
	if len(i.Disks) == 0 {
		i.Disks = nil
	}
	return i
}

func same(t *testing.T, what string, got, want api.Info) {
	t.Helper()
	if got, want = plain(got), plain(want); !reflect.DeepEqual(got, want) {
		t.Fatalf("%s: %+v, want %+v", what, got, want)
	}
}

func sameAll(t *testing.T, what string, got, want []api.Info) {
	t.Helper()
	if len(got) != len(want) {
		t.Fatalf("%s: %d infos, want %d: %+v", what, len(got), len(want), got)
	}
	for k := range want {
		same(t, what+": place "+strconv.Itoa(k), got[k], want[k])
	}
}

// refused asks for an error and, beside it, nothing.
func refused(t *testing.T, what string, i api.Info, e, want api.Errno) {
	t.Helper()
	if e != want || !reflect.DeepEqual(i, api.Info{}) {
		t.Fatalf("%s: %+v %d, want nothing and %d", what, i, e, want)
	}
}

// amounts are at, around and far from the bounds, and beyond them.
func amounts() []int {
	return []int{math.MinInt, -1, 0, 1, 500, 1000, most / 2, most/2 + 1, most - 1, most, most + 1, math.MaxInt}
}

// words are names that are beginnings of others, none at all, and bytes that letters' own orders would place elsewhere.
func words() []string {
	return []string{"", "a", "aa", "ab", "a\x00", "B", "b", "é", "z", "\xff", "10", "9"}
}

func portNumbers() []int { return []int{math.MinInt, -1, 0, 1, 80, 443, 8080, 65535, math.MaxInt} }

func oneOf[T any](r *rand.Rand, l []T) T { return l[r.Intn(len(l))] }

// some is up to n of l, with some twice, in no order.
func some[T any](r *rand.Rand, l []T, n int) []T {
	var out []T
	for range r.Intn(n + 1) {
		out = append(out, oneOf(r, l))
	}
	return out
}

func randomPod(r *rand.Rand, name string, amounts []int) api.Pod {
	return api.Pod{
		Name: name, Node: oneOf(r, words()), Priority: r.Intn(3),
		Want:  api.Res{CPU: oneOf(r, amounts), Mem: oneOf(r, amounts), Disk: oneOf(r, amounts)},
		Ports: some(r, portNumbers(), 4), Claims: some(r, words(), 4),
	}
}

// randomPods have names of which some stand twice.
func randomPods(r *rand.Rand, n int, amounts []int) []api.Pod {
	var l []api.Pod
	for range r.Intn(n + 1) {
		l = append(l, randomPod(r, oneOf(r, words()), amounts))
	}
	return l
}

// distinctPods have names of their own, in no order.
func distinctPods(r *rand.Rand, n int, amounts []int) []api.Pod {
	var l []api.Pod
	for _, k := range r.Perm(len(words()))[:n] {
		l = append(l, randomPod(r, words()[k], amounts))
	}
	return l
}

func randomNode(r *rand.Rand, name string) api.Node {
	return node(name, api.Res{CPU: oneOf(r, amounts()), Mem: oneOf(r, amounts()), Disk: oneOf(r, amounts())})
}

func randomState(r *rand.Rand) api.State {
	s := api.State{Pods: randomPods(r, 12, amounts())}
	for range r.Intn(8) {
		s.Nodes = append(s.Nodes, randomNode(r, oneOf(r, words())))
	}
	return s
}

// copied shares nothing with x.
func copied[T any](x T) T { return deep(reflect.ValueOf(x), false).Interface().(T) }

// opened is x copied, with each list as long as its room: what stands behind the ends is seen, too.
func opened[T any](x T) T { return deep(reflect.ValueOf(x), true).Interface().(T) }

func deep(v reflect.Value, open bool) reflect.Value {
	out := reflect.New(v.Type()).Elem()
	switch v.Kind() {
	case reflect.Struct:
		for k := range v.NumField() {
			out.Field(k).Set(deep(v.Field(k), open))
		}
	case reflect.Slice:
		if v.IsNil() {
			break
		}
		if open {
			v = v.Slice(0, v.Cap())
		}
		out.Set(reflect.MakeSlice(v.Type(), v.Len(), v.Len()))
		for k := range v.Len() {
			out.Index(k).Set(deep(v.Index(k), open))
		}
	default:
		out.Set(v)
	}
	return out
}

// whole is l and what stands behind its end.
func whole[T any](l []T) []T { return l[:cap(l)] }

// roomy is l with room behind it that holds fill.
func roomy[T any](l []T, fill T) []T {
	out := make([]T, len(l)+5)
	copy(out, l)
	for k := len(l); k < len(out); k++ {
		out[k] = fill
	}
	return out[:len(l)]
}

// spoil writes over all that an info's own lists hold, behind their ends, too.
func spoil(i api.Info) {
	for k := range whole(i.Names) {
		whole(i.Names)[k] = "spoilt"
	}
	for k := range whole(i.Ports) {
		whole(i.Ports)[k] = -77
	}
	for k := range whole(i.Disks) {
		whole(i.Disks)[k] = "spoilt"
	}
}
