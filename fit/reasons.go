package fit

import (
	"math"

	"stevedore/api"
	"stevedore/info"
	"stevedore/label"
	"stevedore/quant"
	"stevedore/taint"
)

// visit is a pod that would come to a node.
type visit struct {
	pod        api.Pod
	on         api.Info
	want, free api.Res // amounts, whatever numbers the pod and the info have
}

func visitOf(p api.Pod, i api.Info) visit {
	return visit{pod: p, on: i, want: quant.Sum(p.Want), free: info.Free(i)}
}

// reason is why a pod may not come, and what tells whether it is so.
type reason struct {
	why   int
	holds func(visit) bool
}

// reasons is all of them, in the chapter's order.
func reasons() []reason {
	return []reason{
		{api.WhyOff, visit.off},
		{api.WhyTaint, visit.keptOff},
		{api.WhyAsks, visit.asksElse},
		{api.WhyPorts, visit.clashes},
		{api.WhyPods, visit.full},
		{api.WhyCPU, visit.lacksCPU},
		{api.WhyMem, visit.lacksMem},
		{api.WhyDisk, visit.lacksDisk},
	}
}

func (v visit) off() bool { return v.on.Node.Off }

func (v visit) keptOff() bool {
	_, kept := taint.Kept(v.on.Node.Taints, v.pod.Bears)
	return kept
}

func (v visit) asksElse() bool { return !label.Match(v.on.Node.Labels, v.pod.Asks) }

func (v visit) clashes() bool { return info.Clash(v.on, v.pod) }

func (v visit) full() bool { return len(v.on.Names) >= v.on.Node.Pods }

func (v visit) lacksCPU() bool { return v.want.CPU > v.free.CPU }

func (v visit) lacksMem() bool { return v.want.Mem > v.free.Mem }

func (v visit) lacksDisk() bool { return v.want.Disk > v.free.Disk }

// room is how many pods like v's could come, of a visit that no reason is against.
func (v visit) room() int {
	if len(v.pod.Ports) > 0 {
		return 1 // the first one to come uses the ports that the others ask for
	}
	return min(
		v.on.Node.Pods-len(v.on.Names),
		times(v.want.CPU, v.free.CPU),
		times(v.want.Mem, v.free.Mem),
		times(v.want.Disk, v.free.Disk),
	)
}

// times is how often an amount can be taken of what is free.
func times(want, free int) int {
	if want == 0 {
		return math.MaxInt // nothing never runs out
	}
	return free / want
}
