package cache_test

import (
	"fmt"
	"math"
	"testing"

	"stevedore/api"
	"stevedore/cache"
)

// 15.2: which error counts, of each reason alone and where several apply; nothing is changed.
func TestAssumeRefused(t *testing.T) {
	c := sample(t)
	assume(t, c, "p", "n", "c", "v")
	arm(t, c, "p", 5)
	for _, x := range []struct {
		what, pod, node string
		want            api.Errno
	}{
		{"no such pod", "not-there", "n", api.ErrNone},
		{"no pod's name", "", "n", api.ErrNone},
		{"no such node", "q", "not-there", api.ErrNone},
		{"no node's name", "q", "", api.ErrNone},
		{"neither", "not-there", "not-there", api.ErrNone},
		{"no names", "", "", api.ErrNone},
		{"a node's name for a pod", "n", "n", api.ErrNone},
		{"a pod's name for a node", "q", "p", api.ErrNone},
		{"a bound pod", "a", "n", api.ErrBound},
		{"a bound pod, where it is", "a", "m", api.ErrBound},
		{"a bound pod, no such node", "a", "not-there", api.ErrNone},
		{"an assumed pod", "p", "m", api.ErrAssumed},
		{"an assumed pod, where it is", "p", "n", api.ErrAssumed},
		{"an assumed pod, no such node", "p", "not-there", api.ErrNone},
		{"an assumed pod, no node's name", "p", "", api.ErrNone},
	} {
		for _, picks := range [][]api.Pick{nil, {}, pairs("c", "v"), pairs("d", "w"), pairs("", "")} {
			fails(t, x.what, c, func() api.Errno { return c.Assume(x.pod, x.node, picks) }, x.want)
		}
	}
	tell(t, c, 20, api.Removed, bare(api.KNode, "n"))
	fails(t, "a node that is not known any more", c, func() api.Errno { return c.Assume("q", "n", nil) }, api.ErrNone)
	fails(t, "an assumed pod, its node is not known any more", c, func() api.Errno { return c.Assume("p", "n", nil) }, api.ErrNone)
	fails(t, "an assumed pod, another node", c, func() api.Errno { return c.Assume("p", "m", nil) }, api.ErrAssumed)
	tell(t, c, 21, api.Changed, on("p", "n"))
	fails(t, "a pod that was assumed and is bound", c, func() api.Errno { return c.Assume("p", "m", nil) }, api.ErrBound)
	tell(t, c, 22, api.Removed, on("q", ""))
	fails(t, "a pod that is not known any more", c, func() api.Errno { return c.Assume("q", "m", nil) }, api.ErrNone)
}

// 15.2: a pod that waits is assumed, wherever it hopes to come; again, once it is assumed no more.
func TestAssume(t *testing.T) {
	c := sample(t)
	was := look(c)
	for _, pod := range []string{"q", "r", "p"} {
		assume(t, c, pod, "n")
	}
	assumedIs(t, "three", c, "p", "q", "r")
	same(t, "Belief", where(c.Belief()), []string{"a@m", "p@n", "q@n", "r@n"})
	same(t, "Told", c.Told(), was.told)
	same(t, "versions, sights", []any{look(c).seen, look(c).sight}, []any{was.seen, was.sight})
	for _, pod := range []string{"p", "r", "q"} {
		forget(t, c, pod)
		assume(t, c, pod, "m")
	}
	same(t, "elsewhere", where(c.Belief()), []string{"a@m", "p@m", "q@m", "r@m"})
	for _, pod := range []string{"p", "q", "r"} {
		forget(t, c, pod)
	}
	same(t, "all forgotten", look(c), was)
}

// 15.2: Forget and Arm of one that is not assumed: ErrAssumed; of Arm ErrArg goes ahead.
func TestNotAssumed(t *testing.T) {
	c := sample(t)
	assume(t, c, "p", "n", "c", "v")
	assume(t, c, "r", "n")
	forget(t, c, "r")
	for _, pod := range []string{"a", "q", "r", "n", "c", "not-there", "", "P", "p\x00"} {
		fails(t, fmt.Sprintf("Forget(%q)", pod), c, func() api.Errno { return c.Forget(pod) }, api.ErrAssumed)
		for _, now := range []int{0, 5, lastNow} {
			fails(t, fmt.Sprintf("Arm(%q, %d)", pod, now), c, func() api.Errno { return c.Arm(pod, now) }, api.ErrAssumed)
		}
		for _, now := range noNows() {
			fails(t, fmt.Sprintf("Arm(%q, %d)", pod, now), c, func() api.Errno { return c.Arm(pod, now) }, api.ErrArg)
		}
	}
	forget(t, c, "p")
	fails(t, "Forget twice", c, func() api.Errno { return c.Forget("p") }, api.ErrAssumed)
	assume(t, c, "p", "n")
	arm(t, c, "p", 0)
	expireIs(t, "all", c, 16, "p")
	fails(t, "Forget of one that expired", c, func() api.Errno { return c.Forget("p") }, api.ErrAssumed)
	fails(t, "Arm of one that expired", c, func() api.Errno { return c.Arm("p", 3) }, api.ErrAssumed)
	assume(t, c, "p", "n")
	tell(t, c, 20, api.Changed, on("p", "n"))
	fails(t, "Forget of one that is bound", c, func() api.Errno { return c.Forget("p") }, api.ErrAssumed)
	fails(t, "Arm of one that is bound", c, func() api.Errno { return c.Arm("p", 3) }, api.ErrAssumed)
}

// 15.2: a now that there is not: ErrArg, and nothing is changed; the first and the last one are taken.
func TestNows(t *testing.T) {
	c := sample(t)
	assume(t, c, "p", "n")
	assume(t, c, "q", "n")
	arm(t, c, "q", 7)
	for _, now := range noNows() {
		fails(t, fmt.Sprint("Arm at ", now), c, func() api.Errno { return c.Arm("p", now) }, api.ErrArg)
		fails(t, fmt.Sprint("Arm again at ", now), c, func() api.Errno { return c.Arm("q", now) }, api.ErrArg)
		fails(t, fmt.Sprint("Expire at ", now), c, func() api.Errno {
			l, e := c.Expire(now)
			same(t, "who", len(l), 0)
			return e
		}, api.ErrArg)
	}
	arm(t, c, "p", lastNow)
	expireIs(t, "the last moment", c, lastNow, "q")
	arm(t, c, "p", 0)
	expireIs(t, "the first moment", c, 0)
	expireIs(t, "the last moment", c, lastNow, "p")
	assumedIs(t, "all expired", c)
}

// 15.2: Till is now and 16: just ahead of it nobody expires, just then and behind it one does; once.
func TestExpire(t *testing.T) {
	for _, armed := range []int{0, 1, 5, 1 << 30, lastNow - 17, lastNow - 16} {
		for _, behind := range []int{0, 1, 15, 16, 17} {
			now := armed + behind
			if now > lastNow {
				continue
			}
			c := sample(t)
			assume(t, c, "p", "n", "c", "v")
			arm(t, c, "p", armed)
			was := look(c)
			what := fmt.Sprint("armed at ", armed, ", ", behind, " behind")
			if behind < 16 {
				expireIs(t, what, c, now)
				same(t, what, look(c), was)
				continue
			}
			expireIs(t, what, c, now, "p")
			assumedIs(t, what, c)
			same(t, what, look(c), look(sample(t)))
			expireIs(t, what+", again", c, now)
			expireIs(t, what+", at the end", c, lastNow)
		}
	}
	c := sample(t)
	assume(t, c, "p", "n")
	arm(t, c, "p", lastNow-15)
	expireIs(t, "a Till behind all moments", c, lastNow)
	assumedIs(t, "a Till behind all moments", c, "p")
}

// 15.2: one that is not armed never expires; Arm again sets Till anew, be it later or earlier.
func TestArm(t *testing.T) {
	c := sample(t)
	assume(t, c, "p", "n")
	for _, now := range []int{0, 16, 17, 1 << 39, lastNow} {
		expireIs(t, "not armed", c, now)
	}
	assumedIs(t, "not armed", c, "p")
	arm(t, c, "p", 10)
	arm(t, c, "p", 20)
	expireIs(t, "armed again, later", c, 35)
	same(t, "armed again, later", look(c).over, map[int][]string{36: {"p"}})
	arm(t, c, "p", 3)
	same(t, "armed again, earlier", look(c).over, map[int][]string{19: {"p"}})
	arm(t, c, "p", 3)
	same(t, "armed again, then", look(c).over, map[int][]string{19: {"p"}})
	expireIs(t, "armed again", c, 19, "p")
	assume(t, c, "p", "n")
	expireIs(t, "assumed again, not armed", c, lastNow)
	arm(t, c, "p", 0)
	forget(t, c, "p")
	expireIs(t, "forgotten", c, lastNow)
	assume(t, c, "p", "n")
	expireIs(t, "forgotten, and assumed again", c, lastNow)
	assumedIs(t, "forgotten, and assumed again", c, "p")
}

// 15.2: of some that are armed and some that are not, those expire that are due, and are told rising, however they were assumed and armed.
func TestExpireSome(t *testing.T) {
	c := cache.New()
	tell(t, c, 1, api.Added, bare(api.KNode, "n"))
	tills := map[string]int{"b": 3, "\xff": 1, "a": 3, "Z": 2, "aa": 1, "10": 3, "9": 9, "never": -1, "c": -1}
	for _, pod := range []string{"b", "\xff", "never", "a", "Z", "aa", "10", "9", "c"} {
		tell(t, c, 2, api.Added, on(pod, ""))
		assume(t, c, pod, "n")
	}
	for _, pod := range []string{"aa", "9", "b", "a", "\xff", "10", "Z"} {
		arm(t, c, pod, tills[pod])
	}
	assumedIs(t, "armed", c, "10", "9", "Z", "a", "aa", "b", "c", "never", "\xff")
	expireIs(t, "none", c, 16)
	expireIs(t, "none, a moment below those before", c, 0)
	expireIs(t, "at 17", c, 17, "aa", "\xff")
	assumedIs(t, "at 17", c, "10", "9", "Z", "a", "b", "c", "never")
	expireIs(t, "at 20", c, 20, "10", "Z", "a", "b")
	assumedIs(t, "at 20", c, "9", "c", "never")
	expireIs(t, "a moment below those before", c, 3)
	expireIs(t, "at the end", c, lastNow, "9")
	assumedIs(t, "at the end", c, "c", "never")
	expireIs(t, "at the end, again", c, lastNow)
}

// 15.6: whoever is assumed and armed is assumed no more by an Expire 16 ticks behind, whatever is told between.
func TestNotForEver(t *testing.T) {
	for armed := range 40 {
		c := sample(t)
		for _, pod := range []string{"p", "q", "r"} {
			assume(t, c, pod, "m")
			arm(t, c, pod, armed)
		}
		tell(t, c, 20, api.Changed, podOf(api.Pod{Name: "p", Hope: "m"}))
		tell(t, c, 21, api.Removed, bare(api.KNode, "m"))
		list(t, c, api.KPod, stateOf(on("p", ""), on("q", ""), on("r", "")), nil, nil)
		for now := range armed + 16 {
			expireIs(t, "ahead", c, now)
		}
		expireIs(t, "then", c, armed+16, "p", "q", "r")
		assumedIs(t, "then", c)
	}
}

// Very great and very small numbers in what is told are taken as they are, and no call panics at them.
func TestGreatNumbers(t *testing.T) {
	c := cache.New()
	big := items("n", math.MaxInt, "p", math.MinInt)
	list(t, c, api.KNode, stateOf(bare(api.KNode, "n")), big, big)
	list(t, c, api.KPod, stateOf(on("p", "")), big, items("n", math.MinInt))
	same(t, "Seen and Sight", []int{c.Seen(api.KNode, "n"), c.Seen(api.KPod, "p"), c.Sight("n")}, []int{math.MaxInt, math.MinInt, -1})
	assume(t, c, "p", "n")
	for k := range 3000 {
		tell(t, c, k, api.Added, on(fmt.Sprint("q", k), "n"))
	}
	same(t, "many pods", []int{len(c.Told().Pods), c.Sight("n")}, []int{3001, 2999})
}
