package score_test

import (
	"math"
	"math/big"
	"math/rand"
	"reflect"
	"slices"
	"strconv"
	"testing"

	"stevedore/api"
	"stevedore/score"
)

const (
	most   = api.MaxAmount
	number = 1 << 40 // the greatest one that is made normal
	liking = 1 << 30 // the greatest weight of a Prefer
)

// holds asks for one number.
func holds(t *testing.T, what string, got, want int) {
	t.Helper()
	if got != want {
		t.Errorf("%s: %d, want %d", what, got, want)
	}
}

// holdsAll asks for numbers, one a place.
func holdsAll(t *testing.T, what string, got, want []int) {
	t.Helper()
	if !slices.Equal(got, want) {
		t.Errorf("%s: %v, want %v", what, got, want)
	}
}

// two is amounts of CPU and of memory.
func two(cpu, mem int) api.Res { return api.Res{CPU: cpu, Mem: mem} }

// using is an info of a node that gives so much, with so much in use.
func using(give, used api.Res) api.Info {
	return api.Info{Node: api.Node{Name: "n", Give: give}, Used: used}
}

// wanting is a pod that wants so much.
func wanting(want api.Res) api.Pod { return api.Pod{Name: "p", Want: want} }

// shying is an info whose node has those taints.
func shying(taints ...api.Taint) api.Info {
	return api.Info{Node: api.Node{Name: "n", Taints: taints}}
}

// shy is n taints that only keep off who had better not come, no two alike.
func shy(n int) []api.Taint {
	var l []api.Taint
	for k := range n {
		l = append(l, api.Taint{Key: "old" + strconv.Itoa(k), Effect: api.EffectShy})
	}
	return l
}

// labelled is an info whose node has those labels, pairs of a key and a value.
func labelled(pairs ...string) api.Info {
	var l []api.Label
	for k := 0; k < len(pairs); k += 2 {
		l = append(l, api.Label{Key: pairs[k], Value: pairs[k+1]})
	}
	return api.Info{Node: api.Node{Name: "n", Labels: l}}
}

// likes is a Prefer of nodes that have a label of that key.
func likes(weight int, key string) api.Prefer {
	return api.Prefer{Weight: weight, Reqs: []api.Req{{Key: key, Op: api.OpExists}}}
}

func preferring(l ...api.Prefer) api.Pod { return api.Pod{Name: "p", Prefers: l} }

// What follows tells by the words what is asked, in sums without bounds.

func exact(n int) *big.Int { return big.NewInt(int64(n)) }

// counts is what a number counts as, from 0 to hi.
func counts(n *big.Int, hi int) *big.Int {
	if n.Sign() < 0 {
		return exact(0)
	}
	if n.Cmp(exact(hi)) > 0 {
		return exact(hi)
	}
	return n
}

func amount(n int) *big.Int { return counts(exact(n), most) }

// shareByWords is a times 100 by of, rounded down, at most 100.
func shareByWords(a, of *big.Int) int {
	if of.Sign() == 0 {
		return 0
	}
	n := new(big.Int).Mul(a, exact(100))
	return int(counts(n.Div(n, of), 100).Int64())
}

func freeShare(give, used, want int) int {
	free := new(big.Int).Sub(amount(give), amount(used))
	free = counts(free, most)
	free = counts(free.Sub(free, amount(want)), most)
	return shareByWords(free, amount(give))
}

func usedShare(give, used, want int) int {
	all := new(big.Int).Add(amount(used), amount(want))
	return shareByWords(counts(all, most), amount(give))
}

func leastByWords(p api.Pod, i api.Info) int {
	cpu := freeShare(i.Node.Give.CPU, i.Used.CPU, p.Want.CPU)
	mem := freeShare(i.Node.Give.Mem, i.Used.Mem, p.Want.Mem)
	return (cpu + mem) / 2
}

func evenByWords(p api.Pod, i api.Info) int {
	apart := usedShare(i.Node.Give.CPU, i.Used.CPU, p.Want.CPU) - usedShare(i.Node.Give.Mem, i.Used.Mem, p.Want.Mem)
	if apart < 0 {
		apart = -apart
	}
	return 100 - apart
}

func normalByWords(l []*big.Int, reverse bool) []int {
	greatest := exact(0)
	for _, n := range l {
		if x := counts(n, number); x.Cmp(greatest) > 0 {
			greatest = x
		}
	}
	out := []int{}
	for _, n := range l {
		share := shareByWords(counts(n, number), greatest)
		if reverse {
			share = 100 - share
		}
		out = append(out, share)
	}
	return out
}

func borneByWords(b api.Bear, t api.Taint) bool {
	return (b.Effect == 0 || b.Effect == t.Effect) && (b.Key == t.Key || b.Key == "" && b.Any) && (b.Any || b.Value == t.Value)
}

func calmByWords(p api.Pod, l []api.Info) []int {
	var counted []*big.Int
	for _, i := range l {
		n := 0
		for _, x := range i.Node.Taints {
			borne := slices.ContainsFunc(p.Bears, func(b api.Bear) bool { return borneByWords(b, x) })
			if x.Effect == api.EffectShy && !borne {
				n++
			}
		}
		counted = append(counted, exact(n))
	}
	return normalByWords(counted, true)
}

// metByWords knows the Ops that random Prefers ask by; another one is not met.
func metByWords(labels []api.Label, reqs []api.Req) bool {
	for _, r := range reqs {
		at := slices.IndexFunc(labels, func(x api.Label) bool { return x.Key == r.Key })
		in := at >= 0 && slices.Contains(r.Values, labels[at].Value)
		met := r.Op == api.OpIn && in || r.Op == api.OpNotIn && !in || r.Op == api.OpExists && at >= 0 || r.Op == api.OpLacks && at < 0
		if !met {
			return false
		}
	}
	return true
}

func likedByWords(p api.Pod, l []api.Info) []int {
	var sums []*big.Int
	for _, i := range l {
		sum := exact(0)
		for _, x := range p.Prefers {
			if metByWords(i.Node.Labels, x.Reqs) {
				sum.Add(sum, counts(exact(x.Weight), liking))
			}
		}
		sums = append(sums, sum)
	}
	return normalByWords(sums, false)
}

func totalByWords(p api.Pod, l []api.Info, w [4]int) []int {
	calm, liked := calmByWords(p, l), likedByWords(p, l)
	out := []int{}
	for k, i := range l {
		n := 0
		for at, x := range [4]int{leastByWords(p, i), evenByWords(p, i), calm[k], liked[k]} {
			n += x * int(counts(exact(w[at]), 100).Int64())
		}
		out = append(out, n)
	}
	return out
}

// bestByWords holds each place that may against each other one.
func bestByWords(scores []int, may []bool) []int {
	can := func(k int) bool { return k < len(may) && may[k] }
	out := []int{}
	for k := range scores {
		best := can(k)
		for j := range scores {
			best = best && !(can(j) && scores[j] > scores[k])
		}
		if best {
			out = append(out, k)
		}
	}
	return out
}

func pickByWords(scores []int, may []bool, draw int) int {
	best := bestByWords(scores, may)
	if len(best) == 0 {
		return -1
	}
	n := exact(draw)
	if draw < 0 {
		n.Add(n, new(big.Int).Lsh(exact(1), 64))
	}
	return best[n.Mod(n, exact(len(best))).Int64()]
}

// amounts are at, around and far from the bounds, and beyond them.
func amounts() []int {
	return []int{math.MinInt, -most, -1, 0, 1, 2, 3, 7, 500, 1000, most / 2, most - 1, most, most + 1, 2 * most, math.MaxInt}
}

// small are amounts of which some few are as much as others.
func small() []int { return []int{0, 0, 1, 2, 3, 5, 8, 20, 50, 100} }

// wide are numbers far beyond what is made normal, and at its edges.
func wide() []int {
	return []int{math.MinInt, -number, -1, 0, 0, 1, 2, 3, 7, 99, 100, 101, 1 << 20, number / 2, number - 1, number, number + 1, math.MaxInt}
}

// heavy are weights of Prefers, and beyond what they count as.
func heavy() []int {
	return []int{math.MinInt, -5, 0, 1, 1, 2, 3, 10, liking - 1, liking, liking + 1, number, math.MaxInt}
}

// weights are weights of measures, and beyond what they count as.
func weights() []int { return []int{math.MinInt, -1, 0, 1, 2, 50, 99, 100, 101, 1000, math.MaxInt} }

func oneOf[T any](r *rand.Rand, l []T) T { return l[r.Intn(len(l))] }

// some is up to n of l, with some twice, in no order.
func some[T any](r *rand.Rand, l []T, n int) []T {
	var out []T
	for range r.Intn(n + 1) {
		out = append(out, oneOf(r, l))
	}
	return out
}

func randomRes(r *rand.Rand, amounts []int) api.Res {
	return api.Res{CPU: oneOf(r, amounts), Mem: oneOf(r, amounts), Disk: oneOf(r, amounts)}
}

func randomReqs(r *rand.Rand) []api.Req {
	return some(r, []api.Req{
		{Key: "zone", Op: api.OpIn, Values: []string{"x", "y"}}, {Key: "zone", Op: api.OpNotIn, Values: []string{"z"}},
		{Key: "zone", Op: api.OpExists}, {Key: "arch", Op: api.OpLacks}, {Key: "arch", Op: api.OpIn, Values: []string{"a"}},
		{Key: "arch", Op: 9}, {Key: "zone"},
	}, 2)
}

func randomPod(r *rand.Rand, amounts []int) api.Pod {
	p := api.Pod{Name: oneOf(r, []string{"", "p", "q"}), Priority: r.Intn(3), Node: oneOf(r, []string{"", "n"}), Want: randomRes(r, amounts)}
	p.Bears = some(r, []api.Bear{{Key: "gpu", Value: "yes"}, {Key: "gpu", Any: true, Effect: api.EffectKeep}, {Key: "old", Effect: api.EffectShy}, {Key: "old", Any: true}}, 2)
	for range r.Intn(5) {
		p.Prefers = append(p.Prefers, api.Prefer{Weight: oneOf(r, heavy()), Reqs: randomReqs(r)})
	}
	return p
}

// randomInfo is one that no call made: nothing of it need go with the rest, or rise.
func randomInfo(r *rand.Rand, amounts []int) api.Info {
	n := api.Node{Name: oneOf(r, []string{"", "n", "m"}), Off: r.Intn(5) == 0, Give: randomRes(r, amounts), Pods: r.Intn(4)}
	n.Taints = some(r, []api.Taint{
		{Key: "gpu", Value: "yes", Effect: api.EffectShy}, {Key: "gpu", Effect: api.EffectShy}, {Key: "gpu", Value: "yes", Effect: api.EffectKeep},
		{Key: "old", Effect: api.EffectShy}, {Key: "odd", Effect: api.EffectShy}, {Key: "odd", Effect: 7}, {Key: "none"},
	}, 5)
	n.Labels = some(r, []api.Label{{Key: "arch", Value: "a"}, {Key: "arch", Value: "b"}, {Key: "zone", Value: "x"}, {Key: "zone", Value: "z"}}, 3)
	return api.Info{Node: n, Names: some(r, []string{"p", "b", "a"}, 2), Used: randomRes(r, amounts), Ports: some(r, []int{80, 22}, 2), Disks: some(r, []string{"d", "c"}, 2)}
}

func randomInfos(r *rand.Rand, n int, amounts []int) []api.Info {
	var l []api.Info
	for range n {
		l = append(l, randomInfo(r, amounts))
	}
	return l
}

func randomWeights(r *rand.Rand) [4]int {
	return [4]int{oneOf(r, weights()), oneOf(r, weights()), oneOf(r, weights()), oneOf(r, weights())}
}

// randomScores are scores of which some few are alike, and who may, in lists that need not be of one length.
func randomScores(r *rand.Rand) ([]int, []bool) {
	from := oneOf(r, [][]int{{1, 2}, {0, 1, 2, 3, 4, 5}, {math.MinInt, -1, 0, math.MaxInt}, {-7}, {math.MinInt}})
	return some(r, from, 8), some(r, []bool{false, true, true}, 8)
}

// totalOf is what one info has for its own, whatever stands beside it: Least and Even alone count.
func totalOf(p api.Pod, i api.Info) int { return score.Total(p, []api.Info{i}, [4]int{1, 1, 0, 0})[0] }

// opened is x copied, with each list as long as its room: what stands behind the ends is seen, too.
func opened[T any](x T) T { return deep(reflect.ValueOf(x)).Interface().(T) }

func deep(v reflect.Value) reflect.Value {
	out := reflect.New(v.Type()).Elem()
	switch v.Kind() {
	case reflect.Struct:
		for k := range v.NumField() {
			out.Field(k).Set(deep(v.Field(k)))
		}
	case reflect.Slice:
		if v.IsNil() {
			break
		}
		v = v.Slice(0, v.Cap())
		out.Set(reflect.MakeSlice(v.Type(), v.Len(), v.Len()))
		for k := range v.Len() {
			out.Index(k).Set(deep(v.Index(k)))
		}
	default:
		out.Set(v)
	}
	return out
}

// roomy is l with room behind it that holds fill.
func roomy[T any](l []T, fill T) []T {
	out := make([]T, len(l)+5)
	copy(out, l)
	for k := len(l); k < len(out); k++ {
		out[k] = fill
	}
	return out[:len(l)]
}
