package score

import (
	"stevedore/api"
	"stevedore/label"
	"stevedore/quant"
	"stevedore/taint"
)

// greatestLiking is what a Prefer's weight above it counts as.
const greatestLiking = 1 << 30

// measure tells of each info how well a pod would stand there.
type measure func(p api.Pod, l []api.Info) []int

// measures is all of them, in the order of their weights.
func measures() [4]measure {
	return [4]measure{each(Least), each(Even), Calm, Liked}
}

// each is what one tells of every single info.
func each(one func(api.Pod, api.Info) int) measure {
	return func(p api.Pod, l []api.Info) []int {
		out := make([]int, len(l))
		for k, i := range l {
			out[k] = one(p, i)
		}
		return out
	}
}

// shares is how much of the CPU and of the memory that a node gives an amount is.
func shares(of, give api.Res) (cpu, mem int) {
	return quant.Share(of.CPU, give.CPU, api.MaxScore), quant.Share(of.Mem, give.Mem, api.MaxScore)
}

// shied is how many of the node's taints the pod shies at.
func shied(p api.Pod, i api.Info) int { return taint.Shy(i.Node.Taints, p.Bears) }

// liking is the weights of the pod's Prefers that the node's labels meet, added.
func liking(p api.Pod, i api.Info) int {
	// 1 << 31 members, the most that are promised, of 1 << 30 each are 1 << 61: the sum does not wrap.
	sum := 0
	for _, like := range p.Prefers {
		if label.Match(i.Node.Labels, like.Reqs) {
			sum += between(like.Weight, greatestLiking)
		}
	}
	return sum
}

// between is n as a number from 0 to most.
func between(n, most int) int { return min(max(n, 0), most) }
