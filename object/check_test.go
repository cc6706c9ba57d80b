package object_test

import (
	"fmt"
	"math"
	"reflect"
	"strings"
	"testing"

	"stevedore/api"
	"stevedore/object"
)

// edit is what is done to a full object of a kind, and whether it is right then.
type edit struct {
	what  string
	kind  int
	do    func(o *api.Object)
	right bool
}

func (x edit) object() api.Object {
	o := full(x.kind, "name")
	x.do(&o)
	return o
}

func (x edit) errno() api.Errno {
	if x.right {
		return api.OK
	}
	return api.ErrObject
}

// numberEdits put a number at each end of what it may be, and beyond.
func numberEdits() []edit {
	var l []edit
	for _, c := range []struct {
		what     string
		kind     int
		from, to int
		set      func(o *api.Object, n int)
	}{
		{"priority", api.KPod, -1 << 30, 1 << 30, func(o *api.Object, n int) { o.Pod.Priority = n }},
		{"wanted CPU", api.KPod, 0, 1 << 50, func(o *api.Object, n int) { o.Pod.Want.CPU = n }},
		{"wanted Mem", api.KPod, 0, 1 << 50, func(o *api.Object, n int) { o.Pod.Want.Mem = n }},
		{"wanted Disk", api.KPod, 0, 1 << 50, func(o *api.Object, n int) { o.Pod.Want.Disk = n }},
		{"first weight", api.KPod, 1, 100, func(o *api.Object, n int) { o.Pod.Prefers[0].Weight = n }},
		{"last weight", api.KPod, 1, 100, func(o *api.Object, n int) { o.Pod.Prefers[1].Weight = n }},
		{"port", api.KPod, 1, 65535, func(o *api.Object, n int) { o.Pod.Ports = []int{n} }},
		{"last port", api.KPod, 2, 65535, func(o *api.Object, n int) { o.Pod.Ports = []int{1, n} }},
		{"skew", api.KPod, 1, 1000, func(o *api.Object, n int) { o.Pod.Spreads[0].Skew = n }},
		{"spread's least", api.KPod, 0, 1000, func(o *api.Object, n int) { o.Pod.Spreads[0].Least = n }},
		{"given CPU", api.KNode, 0, 1 << 50, func(o *api.Object, n int) { o.Node.Give.CPU = n }},
		{"given Mem", api.KNode, 0, 1 << 50, func(o *api.Object, n int) { o.Node.Give.Mem = n }},
		{"given Disk", api.KNode, 0, 1 << 50, func(o *api.Object, n int) { o.Node.Give.Disk = n }},
		{"number of pods", api.KNode, 0, 1000, func(o *api.Object, n int) { o.Node.Pods = n }},
		{"number of disks", api.KNode, 0, 1000, func(o *api.Object, n int) { o.Node.Disks = n }},
		{"volume's size", api.KVolume, 0, 1 << 50, func(o *api.Object, n int) { o.Volume.Size = n }},
		{"claim's size", api.KClaim, 0, 1 << 50, func(o *api.Object, n int) { o.Claim.Size = n }},
		{"budget's least", api.KBudget, 0, 1000, func(o *api.Object, n int) { o.Budget.Least = n }},
	} {
		for _, n := range []int{c.from, c.from + 1, c.to - 1, c.to, c.from - 1, c.to + 1, math.MinInt, math.MaxInt, -1, 0, 1, 500} {
			l = append(l, edit{fmt.Sprint(c.what, " ", n), c.kind, func(o *api.Object) { c.set(o, n) }, n >= c.from && n <= c.to})
		}
	}
	return l
}

// textEdits put each text where a name or a key stands.
func textEdits() []edit {
	var l []edit
	for _, c := range []struct {
		what     string
		kind     int
		mayBeOff bool
		set      func(o *api.Object, s string)
	}{
		{"pod", api.KPod, false, func(o *api.Object, s string) { o.Pod.Name = s }},
		{"pod's node", api.KPod, true, func(o *api.Object, s string) { o.Pod.Node = s }},
		{"pod's hope", api.KPod, true, func(o *api.Object, s string) { o.Pod.Hope = s }},
		{"pod's claim", api.KPod, false, func(o *api.Object, s string) { o.Pod.Claims = []string{s} }},
		{"near's key", api.KPod, false, func(o *api.Object, s string) { o.Pod.Near[1].Key = s }},
		{"apart's key", api.KPod, false, func(o *api.Object, s string) { o.Pod.Apart[0].Key = s }},
		{"spread's key", api.KPod, false, func(o *api.Object, s string) { o.Pod.Spreads[0].Key = s }},
		{"node", api.KNode, false, func(o *api.Object, s string) { o.Node.Name = s }},
		{"volume", api.KVolume, false, func(o *api.Object, s string) { o.Volume.Name = s }},
		{"volume's class", api.KVolume, false, func(o *api.Object, s string) { o.Volume.Class = s }},
		{"volume's claim", api.KVolume, true, func(o *api.Object, s string) { o.Volume.Claim = s }},
		{"claim", api.KClaim, false, func(o *api.Object, s string) { o.Claim.Name = s }},
		{"claim's class", api.KClaim, false, func(o *api.Object, s string) { o.Claim.Class = s }},
		{"claim's volume", api.KClaim, true, func(o *api.Object, s string) { o.Claim.Volume = s }},
		{"class", api.KClass, false, func(o *api.Object, s string) { o.Class.Name = s }},
		{"budget", api.KBudget, false, func(o *api.Object, s string) { o.Budget.Name = s }},
	} {
		for _, s := range texts() {
			right := wordForm.MatchString(s) || c.mayBeOff && s == ""
			l = append(l, edit{fmt.Sprintf("%s %q", c.what, s), c.kind, func(o *api.Object) { c.set(o, s) }, right})
		}
	}
	return l
}

// lengthEdits make each list of none, of one, of MaxItems and of more.
func lengthEdits() []edit {
	var l []edit
	for _, c := range []struct {
		what string
		kind int
		set  func(o *api.Object, n int)
	}{
		{"pod's labels", api.KPod, func(o *api.Object, n int) { o.Pod.Labels = labels(n) }},
		{"bears", api.KPod, func(o *api.Object, n int) { o.Pod.Bears = repeat(n, api.Bear{Key: "k"}) }},
		{"asks", api.KPod, func(o *api.Object, n int) { o.Pod.Asks = repeat(n, has("k")) }},
		{"prefers", api.KPod, func(o *api.Object, n int) { o.Pod.Prefers = repeat(n, api.Prefer{Weight: 1}) }},
		{"prefer's reqs", api.KPod, func(o *api.Object, n int) { o.Pod.Prefers[0].Reqs = repeat(n, has("k")) }},
		{"ports", api.KPod, func(o *api.Object, n int) { o.Pod.Ports = ports(n) }},
		{"near", api.KPod, func(o *api.Object, n int) { o.Pod.Near = repeat(n, api.Term{Key: "k"}) }},
		{"near's reqs", api.KPod, func(o *api.Object, n int) { o.Pod.Near[1].Reqs = repeat(n, has("k")) }},
		{"apart", api.KPod, func(o *api.Object, n int) { o.Pod.Apart = repeat(n, api.Term{Key: "k"}) }},
		{"apart's reqs", api.KPod, func(o *api.Object, n int) { o.Pod.Apart[0].Reqs = repeat(n, has("k")) }},
		{"spreads", api.KPod, func(o *api.Object, n int) { o.Pod.Spreads = repeat(n, api.Spread{Key: "k", Skew: 1}) }},
		{"spread's reqs", api.KPod, func(o *api.Object, n int) { o.Pod.Spreads[0].Reqs = repeat(n, has("k")) }},
		{"pod's claims", api.KPod, func(o *api.Object, n int) { o.Pod.Claims = named(n) }},
		{"node's labels", api.KNode, func(o *api.Object, n int) { o.Node.Labels = labels(n) }},
		{"taints", api.KNode, func(o *api.Object, n int) { o.Node.Taints = taints(n) }},
		{"volume's reqs", api.KVolume, func(o *api.Object, n int) { o.Volume.Reqs = repeat(n, has("k")) }},
		{"budget's reqs", api.KBudget, func(o *api.Object, n int) { o.Budget.Reqs = repeat(n, has("k")) }},
	} {
		for _, n := range []int{0, 1, 63, 64, 65, 66, 128, 1000} {
			l = append(l, edit{fmt.Sprint(n, " of ", c.what), c.kind, func(o *api.Object) { c.set(o, n) }, n <= 64})
		}
	}
	return l
}

func labels(n int) []api.Label {
	l := make([]api.Label, n)
	for i, k := range named(n) {
		l[i].Key = k
	}
	return l
}

func taints(n int) []api.Taint {
	l := make([]api.Taint, n)
	for i, k := range named(n) {
		l[i] = api.Taint{Key: k, Effect: api.EffectShy}
	}
	return l
}

func ports(n int) []int {
	l := make([]int, n)
	for i := range l {
		l[i] = 7 * (i + 1)
	}
	return l
}

// listEdits put what may and what may not be into the lists.
func listEdits() []edit {
	no := []api.Req{has("k"), {Key: "k", Op: 7}}
	last := func(n int, bad api.Req) []api.Req { return append(repeat(n, has("k")), bad) }
	many := append(named(63), "W")
	pod, node := api.KPod, api.KNode
	return []edit{
		{"ports that fall", pod, func(o *api.Object) { o.Pod.Ports = []int{2, 1} }, false},
		{"ports that fall later", pod, func(o *api.Object) { o.Pod.Ports = []int{1, 3, 2} }, false},
		{"a port twice", pod, func(o *api.Object) { o.Pod.Ports = []int{80, 80} }, false},
		{"a port twice, apart", pod, func(o *api.Object) { o.Pod.Ports = []int{80, 81, 80} }, false},
		{"the last port of many twice", pod, func(o *api.Object) { o.Pod.Ports = append(ports(63), 7*63) }, false},
		{"ports one by one", pod, func(o *api.Object) { o.Pod.Ports = []int{1, 2, 3} }, true},
		{"claims that fall", pod, func(o *api.Object) { o.Pod.Claims = []string{"b", "a"} }, false},
		{"claims that fall later", pod, func(o *api.Object) { o.Pod.Claims = []string{"a", "c", "b"} }, false},
		{"a claim twice", pod, func(o *api.Object) { o.Pod.Claims = []string{"a", "a"} }, false},
		{"a claim twice, apart", pod, func(o *api.Object) { o.Pod.Claims = []string{"a", "b", "a"} }, false},
		{"claims byte by byte", pod, func(o *api.Object) { o.Pod.Claims = []string{"-", "10", "9", "a", "a-", "aa", "b"} }, true},
		{"claims as numbers", pod, func(o *api.Object) { o.Pod.Claims = []string{"9", "10"} }, false},
		{"an empty claim, and another", pod, func(o *api.Object) { o.Pod.Claims = []string{"", "a"} }, false},
		{"the last claim of many no name", pod, func(o *api.Object) { o.Pod.Claims = append(named(63), "nz_") }, false},
		{"labels that fall", pod, func(o *api.Object) { o.Pod.Labels = []api.Label{{Key: "b"}, {Key: "a"}} }, false},
		{"a label's bad value", pod, func(o *api.Object) { o.Pod.Labels[1].Value = "X" }, false},
		{"asks that may not be", pod, func(o *api.Object) { o.Pod.Asks = no }, false},
		{"the last ask bad", pod, func(o *api.Object) { o.Pod.Asks = last(63, api.Req{Key: "k", Op: api.OpIn}) }, false},
		{"an ask of values, one bad", pod, func(o *api.Object) { o.Pod.Asks[1].Values = many }, false},
		{"an ask of MaxItems values", pod, func(o *api.Object) { o.Pod.Asks[1].Values = named(64) }, true},
		{"an ask of one more", pod, func(o *api.Object) { o.Pod.Asks[1].Values = named(65) }, false},
		{"a bear of nothing", pod, func(o *api.Object) { o.Pod.Bears = []api.Bear{{}} }, false},
		{"a bear's bad effect", pod, func(o *api.Object) { o.Pod.Bears[1].Effect = 3 }, false},
		{"a bear twice", pod, func(o *api.Object) { o.Pod.Bears = repeat(2, api.Bear{Key: "k"}) }, true},
		{"a prefer's bad reqs", pod, func(o *api.Object) { o.Pod.Prefers[1].Reqs = no }, false},
		{"the last prefer of many bad", pod, func(o *api.Object) { o.Pod.Prefers = append(repeat(63, api.Prefer{Weight: 1}), api.Prefer{}) }, false},
		{"a near's bad reqs", pod, func(o *api.Object) { o.Pod.Near[0].Reqs = no }, false},
		{"an apart's bad reqs", pod, func(o *api.Object) { o.Pod.Apart[0].Reqs = no }, false},
		{"the last near without a key", pod, func(o *api.Object) { o.Pod.Near = append(repeat(63, api.Term{Key: "k"}), api.Term{}) }, false},
		{"a term twice", pod, func(o *api.Object) { o.Pod.Near = repeat(2, api.Term{Key: "k"}) }, true},
		{"a spread's bad reqs", pod, func(o *api.Object) { o.Pod.Spreads[0].Reqs = no }, false},
		{"a spread twice", pod, func(o *api.Object) { o.Pod.Spreads = repeat(2, api.Spread{Key: "k", Skew: 1000, Least: 1000}) }, true},
		{"no node, no hope", pod, func(o *api.Object) { o.Pod.Node, o.Pod.Hope = "", "" }, true},
		{"all at once wrong", pod, func(o *api.Object) { o.Pod = api.Pod{Priority: math.MaxInt, Ports: []int{0}, Labels: labels(65)} }, false},
		{"node's label twice", node, func(o *api.Object) { o.Node.Labels = repeat(2, api.Label{Key: "a"}) }, false},
		{"a taint twice", node, func(o *api.Object) { o.Node.Taints = repeat(2, o.Node.Taints[0]) }, false},
		{"a taint's bad effect", node, func(o *api.Object) { o.Node.Taints[0].Effect = 0 }, false},
		{"a node that is not off", node, func(o *api.Object) { o.Node.Off = false }, true},
		{"a volume's bad reqs", api.KVolume, func(o *api.Object) { o.Volume.Reqs = no }, false},
		{"a class that does not wait", api.KClass, func(o *api.Object) { o.Class.Wait = false }, true},
		{"a budget's bad reqs", api.KBudget, func(o *api.Object) { o.Budget.Reqs = no }, false},
	}
}

func edits() []edit {
	l := append(numberEdits(), textEdits()...)
	return append(append(l, lengthEdits()...), listEdits()...)
}

// 4.1: the chapter's example.
func TestCheckExample(t *testing.T) {
	same(t, "a class without a name", object.Check(api.Object{Kind: api.KClass}), api.ErrObject)
	same(t, "kind 7", object.Check(api.Object{Kind: 7}), api.ErrArg)
	same(t, "a class", object.Check(api.Object{Kind: api.KClass, Class: api.Class{Name: "a"}}), api.OK)
}

// 4.1: of each kind an object with much, with little and with nothing in it.
func TestCheckEachKind(t *testing.T) {
	for _, kind := range allKinds() {
		same(t, fmt.Sprint("full, kind ", kind), object.Check(full(kind, "a")), api.OK)
		same(t, fmt.Sprint("bare, kind ", kind), object.Check(bare(kind, "a")), api.OK)
		same(t, fmt.Sprint("nothing, kind ", kind), object.Check(api.Object{Kind: kind}), api.ErrObject)
		same(t, fmt.Sprint("longest name, kind ", kind), object.Check(full(kind, strings.Repeat("z", 32))), api.OK)
	}
	same(t, "a volume without a class", object.Check(api.Object{Kind: api.KVolume, Volume: api.Volume{Name: "v"}}), api.ErrObject)
	same(t, "a claim without a class", object.Check(api.Object{Kind: api.KClaim, Claim: api.Claim{Name: "c"}}), api.ErrObject)
}

// 4.1: the edges that the chapter's words name.
func TestCheckEdges(t *testing.T) {
	for _, x := range edits() {
		same(t, "Check of "+x.what, object.Check(x.object()), x.errno())
	}
}

// 4.1: a state's objects are held to the same words.
func TestCheckStateEdges(t *testing.T) {
	for _, x := range edits() {
		want := api.OK
		if !x.right {
			want = api.ErrState
		}
		same(t, "CheckState with "+x.what, object.CheckState(stateOf(x.object())), want)
	}
}

// 4.1: kinds that there are not, whatever else is in the object.
func TestCheckNoKinds(t *testing.T) {
	for _, kind := range noKinds() {
		same(t, fmt.Sprint("nothing, kind ", kind), object.Check(api.Object{Kind: kind}), api.ErrArg)
		for _, in := range allKinds() {
			o := full(in, "a")
			o.Kind = kind
			same(t, fmt.Sprint("full ", in, ", kind ", kind), object.Check(o), api.ErrArg)
			o = api.Object{Kind: kind, Class: api.Class{Name: "NO"}, Pod: api.Pod{Priority: math.MaxInt}}
			same(t, fmt.Sprint("wrong ", in, ", kind ", kind), object.Check(o), api.ErrArg)
		}
	}
}

// memberOf is the member of a kind of what v tells of.
func memberOf(o *api.Object, kind int) reflect.Value {
	return reflect.ValueOf(o).Elem().Field(kind)
}

// leaves tells all fields in v that are no structs.
func leaves(v reflect.Value, tell func(what string, f reflect.Value)) {
	for i := range v.NumField() {
		f := v.Field(i)
		if f.Kind() == reflect.Struct {
			leaves(f, tell)
			continue
		}
		tell(v.Type().Name()+"."+v.Type().Field(i).Name, f)
	}
}

// fill puts into a field what is not its zero value.
func fill(f reflect.Value) {
	switch f.Kind() {
	case reflect.String:
		f.SetString("x")
	case reflect.Int:
		f.SetInt(1)
	case reflect.Bool:
		f.SetBool(true)
	case reflect.Slice:
		f.Set(reflect.MakeSlice(f.Type(), 1, 1))
	}
}

// 4.1: an object of one kind has nothing in the members of the others.
func TestCheckOtherMembers(t *testing.T) {
	seen := 0
	for _, kind := range allKinds() {
		for _, other := range allKinds() {
			if other == kind {
				continue
			}
			o := full(kind, "a")
			leaves(memberOf(&o, other), func(what string, f reflect.Value) {
				seen++
				fill(f)
				same(t, fmt.Sprint(what, " in an object of kind ", kind), object.Check(o), api.ErrObject)
				f.SetZero()
				same(t, fmt.Sprint(what, " taken out of an object of kind ", kind), object.Check(o), api.OK)
				if f.Kind() == reflect.Slice { // a list without members may be nil or empty
					f.Set(reflect.MakeSlice(f.Type(), 0, 4))
					same(t, fmt.Sprint(what, " empty in an object of kind ", kind), object.Check(o), api.OK)
				}
			})
			o = full(kind, "a")
			memberOf(&o, other).Set(reflect.ValueOf(full(other, "a")).Field(other))
			same(t, fmt.Sprint("two right members, kind ", kind), object.Check(o), api.ErrObject)
		}
	}
	if seen != 5*(16+9+5+4+2+3) {
		t.Errorf("%d fields were gone through", seen)
	}
}

// 4.1: lists without members may be empty in the object's own member, too.
func TestCheckEmptyLists(t *testing.T) {
	for _, kind := range allKinds() {
		o := bare(kind, "a")
		leaves(memberOf(&o, kind), func(what string, f reflect.Value) {
			if f.Kind() == reflect.Slice {
				f.Set(reflect.MakeSlice(f.Type(), 0, 0))
			}
		})
		same(t, fmt.Sprint("empty lists, kind ", kind), object.Check(o), api.OK)
		same(t, fmt.Sprint("empty lists in a state, kind ", kind), object.CheckState(stateOf(o)), api.OK)
	}
}

// 4.1: names, of right objects and of others.
func TestName(t *testing.T) {
	for _, kind := range allKinds() {
		for _, name := range texts() {
			same(t, fmt.Sprintf("Name %q, kind %d", name, kind), object.Name(bare(kind, name)), name)
			o := everyMember("x")
			memberOf(&o, kind).FieldByName("Name").SetString(name)
			o.Kind = kind
			same(t, fmt.Sprintf("Name %q among others, kind %d", name, kind), object.Name(o), name)
		}
		same(t, fmt.Sprint("Name of nothing, kind ", kind), object.Name(api.Object{Kind: kind}), "")
	}
	for _, kind := range noKinds() {
		o := everyMember("x")
		o.Kind = kind
		same(t, fmt.Sprint("Name of kind ", kind), object.Name(o), "")
	}
}

// everyMember is an object with all members at once.
func everyMember(name string) api.Object {
	var o api.Object
	for _, kind := range allKinds() {
		memberOf(&o, kind).Set(reflect.ValueOf(full(kind, name)).Field(kind))
	}
	return o
}

// 4.1: how many there may be of a kind, and that this is asked first.
func TestCheckStateLong(t *testing.T) {
	same(t, "nothing", object.CheckState(api.State{}), api.OK)
	same(t, "empty lists", object.CheckState(api.State{Pods: []api.Pod{}, Budgets: []api.Budget{}}), api.OK)
	var most []api.Object
	for _, kind := range allKinds() {
		most = append(most, listOf(many(kind, 256), kind)...)
		same(t, fmt.Sprint("MaxObjects, kind ", kind), object.CheckState(many(kind, 256)), api.OK)
		same(t, fmt.Sprint("one more, kind ", kind), object.CheckState(many(kind, 257)), api.ErrLong)
		same(t, fmt.Sprint("far more, kind ", kind), object.CheckState(many(kind, 2000)), api.ErrLong)
		for _, bad := range allKinds() {
			s := stateOf(append(listOf(many(kind, 257), kind), api.Object{Kind: bad})...)
			same(t, fmt.Sprint("one more of ", kind, ", a wrong one of ", bad), object.CheckState(s), api.ErrLong)
		}
	}
	same(t, "MaxObjects of each kind", object.CheckState(stateOf(most...)), api.OK)
}

// 4.1: names rise strictly within a kind; the same name in two kinds is right.
func TestCheckStateNames(t *testing.T) {
	for _, c := range []struct {
		names []string
		want  api.Errno
	}{
		{[]string{"a"}, api.OK},
		{[]string{"a", "b"}, api.OK},
		{[]string{"b", "a"}, api.ErrState},
		{[]string{"a", "a"}, api.ErrState},
		{[]string{"a", "b", "b"}, api.ErrState},
		{[]string{"a", "c", "b"}, api.ErrState},
		{[]string{"a", "b", "a"}, api.ErrState},
		{[]string{"-", ".", "/", "10", "9", "a", "a-", "aa", "b"}, api.OK},
		{[]string{"9", "10"}, api.ErrState},
		{[]string{"b", "aa"}, api.ErrState},
		{[]string{"aa", "a"}, api.ErrState},
		{[]string{"", "a"}, api.ErrState},
		{[]string{"a", "b", "c_"}, api.ErrState},
		{[]string{"A", "a"}, api.ErrState},
		{append(named(255), "n0254"), api.ErrState},
		{append(named(255), "zz"), api.OK},
	} {
		var every []api.Object
		for _, kind := range allKinds() {
			var l []api.Object
			for _, name := range c.names {
				l = append(l, bare(kind, name))
			}
			same(t, fmt.Sprintf("kind %d, names %q", kind, c.names), object.CheckState(stateOf(l...)), c.want)
			every = append(every, l...)
		}
		same(t, fmt.Sprintf("each kind, names %q", c.names), object.CheckState(stateOf(every...)), c.want)
	}
}

// 4.1: one wrong object, wherever it stands.
func TestCheckStateOneWrong(t *testing.T) {
	for _, kind := range allKinds() {
		for _, at := range []int{0, 1, 100, 254, 255} {
			l := listOf(many(kind, 256), kind)
			if kind == api.KClass { // of a class only the name can be wrong: here one between its neighbours'
				l[at].Class.Name += "_"
			} else {
				spoil(&l[at])
			}
			same(t, fmt.Sprint("kind ", kind, ", place ", at), object.CheckState(stateOf(l...)), api.ErrState)
		}
	}
}

// spoil makes an object wrong, and leaves its name.
func spoil(o *api.Object) {
	o.Pod.Hope = "H"
	o.Node.Disks = -1
	o.Volume.Class = ""
	o.Claim.Size = -1
	o.Budget.Least = 1001
}
