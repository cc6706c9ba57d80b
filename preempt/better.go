package preempt

import (
	"cmp"

	"stevedore/api"
)

// harm compares two candidates of s: below 0, if putting out the first one's victims harms less. Which of them stands ahead it does not ask.
func harm(s api.State) func(a, b api.Chosen) int {
	priority := make(map[string]int, len(s.Pods))
	for _, q := range s.Pods {
		if _, was := priority[q.Name]; !was {
			priority[q.Name] = q.Priority
		}
	}
	// Victims fall by priority, and a candidate has one at least.
	greatest := func(c api.Chosen) int { return priority[c.Victims[0]] }
	sum := func(c api.Chosen) int {
		all := 0
		for _, name := range c.Victims {
			all += min(max(priority[name], -api.MaxPriority), api.MaxPriority)
		}
		return all
	}
	return func(a, b api.Chosen) int {
		return cmp.Or(
			cmp.Compare(a.Broken, b.Broken),
			cmp.Compare(greatest(a), greatest(b)),
			cmp.Compare(sum(a), sum(b)),
			cmp.Compare(len(a.Victims), len(b.Victims)),
		)
	}
}
