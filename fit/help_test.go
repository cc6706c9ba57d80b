package fit_test

import (
	"math"
	"math/big"
	"math/rand"
	"reflect"
	"slices"
	"strconv"
	"testing"

	"stevedore/api"
	"stevedore/fit"
	"stevedore/info"
)

const most = api.MaxAmount

// order is the chapter's order of reasons.
func order() []int {
	return []int{api.WhyOff, api.WhyTaint, api.WhyAsks, api.WhyPorts, api.WhyPods, api.WhyCPU, api.WhyMem, api.WhyDisk}
}

// member is one of the three amounts, with the reason that tells of it.
type member struct {
	name string
	why  int
	of   func(*api.Res) *int
}

func members() []member {
	return []member{
		{"CPU", api.WhyCPU, func(r *api.Res) *int { return &r.CPU }},
		{"Mem", api.WhyMem, func(r *api.Res) *int { return &r.Mem }},
		{"Disk", api.WhyDisk, func(r *api.Res) *int { return &r.Disk }},
	}
}

// res is an amount of one member alone.
func (m member) res(a int) api.Res {
	var r api.Res
	*m.of(&r) = a
	return r
}

// names are n names of pods.
func names(n int) []string {
	var l []string
	for k := range n {
		l = append(l, "pod-"+strconv.Itoa(1000+k))
	}
	return l
}

// wide is the info of a node on which nobody stands and that takes many, with much of all.
func wide() api.Info {
	return api.Info{Node: api.Node{Name: "n", Pods: 1000, Give: api.Res{CPU: most, Mem: most, Disk: most}}}
}

// told asks for all reasons, and for the first one of them.
func told(t *testing.T, what string, p api.Pod, i api.Info, want ...int) {
	t.Helper()
	if got := fit.All(p, i); !slices.Equal(got, want) {
		t.Errorf("%s: All: %v, want %v", what, got, want)
	}
	if got, first := fit.Check(p, i), append(slices.Clone(want), 0)[0]; got != first {
		t.Errorf("%s: Check: %d, want %d", what, got, first)
	}
}

// tells asks for how many could come.
func tells(t *testing.T, what string, p api.Pod, i api.Info, limit, want int) {
	t.Helper()
	if got := fit.Most(p, i, limit); got != want {
		t.Errorf("%s: Most(.., %d): %d, want %d", what, limit, got, want)
	}
}

// counts is what a number counts as by the first chapter.
func counts(a int) *big.Int { return big.NewInt(int64(min(max(a, 0), most))) }

// lacking tells by the words whether more is wanted than is free.
func lacking(want, give, used int) bool {
	free := new(big.Int).Sub(counts(give), counts(used))
	if free.Sign() < 0 {
		free.SetInt64(0)
	}
	return counts(want).Cmp(free) > 0
}

func borneByWords(b api.Bear, t api.Taint) bool {
	return (b.Effect == 0 || b.Effect == t.Effect) && (b.Key == t.Key || b.Key == "" && b.Any) && (b.Any || b.Value == t.Value)
}

func keptByWords(taints []api.Taint, bears []api.Bear) bool {
	for _, t := range taints {
		borne := slices.ContainsFunc(bears, func(b api.Bear) bool { return borneByWords(b, t) })
		if t.Effect == api.EffectKeep && !borne {
			return true
		}
	}
	return false
}

// metByWords knows the four Ops that randomPod asks by.
func metByWords(labels []api.Label, asks []api.Req) bool {
	for _, r := range asks {
		at := slices.IndexFunc(labels, func(l api.Label) bool { return l.Key == r.Key })
		in := at >= 0 && slices.Contains(r.Values, labels[at].Value)
		met := r.Op == api.OpIn && in || r.Op == api.OpNotIn && !in || r.Op == api.OpExists && at >= 0 || r.Op == api.OpLacks && at < 0
		if !met {
			return false
		}
	}
	return true
}

// allByWords is the chapter's sentence.
func allByWords(p api.Pod, i api.Info) []int {
	inUse := false
	for _, port := range p.Ports {
		inUse = inUse || slices.Contains(i.Ports, port)
	}
	is := map[int]bool{
		api.WhyOff:   i.Node.Off,
		api.WhyTaint: keptByWords(i.Node.Taints, p.Bears),
		api.WhyAsks:  !metByWords(i.Node.Labels, p.Asks),
		api.WhyPorts: inUse,
		api.WhyPods:  len(i.Names) >= i.Node.Pods,
		api.WhyCPU:   lacking(p.Want.CPU, i.Node.Give.CPU, i.Used.CPU),
		api.WhyMem:   lacking(p.Want.Mem, i.Node.Give.Mem, i.Used.Mem),
		api.WhyDisk:  lacking(p.Want.Disk, i.Node.Give.Disk, i.Used.Disk),
	}
	var out []int
	for _, why := range order() {
		if is[why] {
			out = append(out, why)
		}
	}
	return out
}

// mostByWords lets one come behind the other, each with a name of its own, as long as there is no reason.
func mostByWords(p api.Pod, i api.Info, limit int) int {
	n := 0
	for n < min(max(limit, 0), 1000) && len(allByWords(p, i)) == 0 {
		n++
		i = joined(i, p, "like "+strconv.Itoa(n))
	}
	return n
}

// joined is i with one more pod like p, of another name. It does not sort: an info that no call made stays as odd as it is.
func joined(i api.Info, p api.Pod, name string) api.Info {
	i.Names = append(slices.Clone(i.Names), name)
	i.Ports = append(slices.Clone(i.Ports), p.Ports...)
	i.Used = api.Res{CPU: sum(i.Used.CPU, p.Want.CPU), Mem: sum(i.Used.Mem, p.Want.Mem), Disk: sum(i.Used.Disk, p.Want.Disk)}
	return i
}

func sum(a, b int) int {
	s := new(big.Int).Add(counts(a), counts(b))
	if s.Cmp(big.NewInt(most)) > 0 {
		return most
	}
	return int(s.Int64())
}

// amounts are at, around and far from the bounds, and beyond them.
func amounts() []int {
	return []int{math.MinInt, -1, 0, 0, 1, 2, 3, 500, 1000, most / 2, most - 1, most, most + 1, math.MaxInt}
}

// small are amounts of which some few are as much as others.
func small() []int { return []int{0, 0, 1, 2, 3, 5, 8, 20, 50} }

func oneOf[T any](r *rand.Rand, l []T) T { return l[r.Intn(len(l))] }

// some is up to n of l, with some twice, in no order.
func some[T any](r *rand.Rand, l []T, n int) []T {
	var out []T
	for range r.Intn(n + 1) {
		out = append(out, oneOf(r, l))
	}
	return out
}

func randomRes(r *rand.Rand, amounts []int) api.Res {
	return api.Res{CPU: oneOf(r, amounts), Mem: oneOf(r, amounts), Disk: oneOf(r, amounts)}
}

func randomPod(r *rand.Rand, name string, amounts []int) api.Pod {
	p := api.Pod{Name: name, Priority: r.Intn(3), Node: oneOf(r, []string{"", "n", "m"}), Want: randomRes(r, amounts)}
	if r.Intn(3) == 0 {
		p.Ports = some(r, []int{-1, 0, 80, 443, 8080}, 3)
	}
	p.Bears = some(r, []api.Bear{{Any: true}, {Key: "gpu", Value: "yes"}, {Key: "gpu", Any: true, Effect: api.EffectShy}, {Key: "old", Effect: api.EffectKeep}}, 3)
	p.Asks = some(r, []api.Req{
		{Key: "zone", Op: api.OpIn, Values: []string{"x", "y"}}, {Key: "zone", Op: api.OpNotIn, Values: []string{"z"}},
		{Key: "zone", Op: api.OpExists}, {Key: "arch", Op: api.OpLacks}, {Key: "arch", Op: api.OpNotIn, Values: []string{"b"}},
	}, 2)
	return p
}

func randomNode(r *rand.Rand, amounts []int) api.Node {
	n := api.Node{Name: "n", Off: r.Intn(8) == 0, Give: randomRes(r, amounts), Pods: oneOf(r, []int{math.MinInt, -1, 0, 1, 2, 3, 5, 9, 1000, math.MaxInt})}
	if r.Intn(2) == 0 {
		n.Taints = some(r, []api.Taint{{Key: "gpu", Value: "yes", Effect: api.EffectKeep}, {Key: "gpu", Effect: api.EffectShy}, {Key: "old", Effect: api.EffectKeep}, {Key: "odd", Effect: 7}}, 2)
	}
	if r.Intn(3) > 0 {
		n.Labels = []api.Label{{Key: "arch", Value: oneOf(r, []string{"a", "b"})}, {Key: "zone", Value: oneOf(r, []string{"x", "y", "z"})}}
	}
	return n
}

// randomInfo is one that no call made: nothing of it need go with the rest, or rise.
func randomInfo(r *rand.Rand, amounts []int) api.Info {
	return api.Info{
		Node: randomNode(r, amounts), Names: some(r, []string{"b", "a", "p", "", "z"}, 4), Used: randomRes(r, amounts),
		Ports: some(r, []int{8080, 80, 0, 22}, 2), Disks: some(r, []string{"d", "c"}, 2),
	}
}

// randomPods have names of their own.
func randomPods(r *rand.Rand, n int, amounts []int) []api.Pod {
	var l []api.Pod
	for _, name := range names(n) {
		l = append(l, randomPod(r, name, amounts))
	}
	return l
}

// easyPair is a pod and an info of the info layer's own, of which often nothing is against it.
func easyPair(r *rand.Rand) (api.Pod, api.Info) {
	n := randomNode(r, []int{0, 50, 100, 1000, most})
	if r.Intn(4) > 0 {
		n.Off, n.Taints = false, nil
	}
	p := randomPod(r, "p", small())
	if r.Intn(4) > 0 {
		p.Asks = nil
	}
	return p, info.Of(n, randomPods(r, r.Intn(4), small())...)
}

// opened is x copied, with each list as long as its room: what stands behind the ends is seen, too.
func opened[T any](x T) T { return deep(reflect.ValueOf(x)).Interface().(T) }

func deep(v reflect.Value) reflect.Value {
	out := reflect.New(v.Type()).Elem()
	switch v.Kind() {
	case reflect.Struct:
		for k := range v.NumField() {
			out.Field(k).Set(deep(v.Field(k)))
		}
	case reflect.Slice:
		if v.IsNil() {
			break
		}
		v = v.Slice(0, v.Cap())
		out.Set(reflect.MakeSlice(v.Type(), v.Len(), v.Len()))
		for k := range v.Len() {
			out.Index(k).Set(deep(v.Index(k)))
		}
	default:
		out.Set(v)
	}
	return out
}

// roomy is l with room behind it that holds fill.
func roomy[T any](l []T, fill T) []T {
	out := make([]T, len(l)+5)
	copy(out, l)
	for k := len(l); k < len(out); k++ {
		out[k] = fill
	}
	return out[:len(l)]
}
