package budget_test

import (
	"sort"
	"strconv"

	"stevedore/api"
)

// What follows tells by the words alone what is asked.

// podByWords is the first pod of that name.
func podByWords(s api.State, name string) (api.Pod, bool) {
	for _, p := range s.Pods {
		if p.Name == name {
			return p, true
		}
	}
	return api.Pod{}, false
}

// first is the first value of a key, or none.
func first(l []api.Label, key string) []string {
	for _, x := range l {
		if x.Key == key {
			return []string{x.Value}
		}
	}
	return nil
}

// meets knows the Ops that reqLists has, and one that there is not.
func meets(l []api.Label, reqs []api.Req) bool {
	for _, r := range reqs {
		value := first(l, r.Key)
		in := len(value) == 1 && has(r.Values, value[0])
		if r.Op == api.OpAbove {
			in = len(value) == 1 && number(value[0]) > number(r.Values[0])
		}
		met := (r.Op == api.OpIn || r.Op == api.OpAbove) && in || r.Op == api.OpNotIn && !in || r.Op == api.OpExists && value != nil || r.Op == api.OpLacks && value == nil
		if !met {
			return false
		}
	}
	return true
}

// number is that of digits.
func number(s string) int {
	n, _ := strconv.Atoi(s)
	return n
}

func has(l []string, x string) bool {
	for _, y := range l {
		if x == y {
			return true
		}
	}
	return false
}

func aboutByWords(s api.State, b api.Budget) []string {
	var out, seen []string
	for _, p := range s.Pods {
		if !has(seen, p.Name) && p.Node != "" && meets(p.Labels, b.Reqs) {
			out = append(out, p.Name)
		}
		seen = append(seen, p.Name)
	}
	return out
}

func allowsByWords(s api.State, b api.Budget) int {
	n := len(aboutByWords(s, b))
	if b.Least > n {
		return 0
	}
	if b.Least > 0 {
		n -= b.Least
	}
	return n
}

// budgetsByWords is the first budget of each name.
func budgetsByWords(s api.State) []api.Budget {
	var out []api.Budget
	var seen []string
	for _, b := range s.Budgets {
		if !has(seen, b.Name) {
			out = append(out, b)
		}
		seen = append(seen, b.Name)
	}
	return out
}

// countedByWords is those of the victims that count: bound pods of the state, each once.
func countedByWords(s api.State, victims []string) []string {
	var out []string
	for _, v := range victims {
		if p, there := podByWords(s, v); there && p.Node != "" && !has(out, v) {
			out = append(out, v)
		}
	}
	return out
}

// brokenByWords counts for each victim anew who is ahead of it.
func brokenByWords(s api.State, victims []string) []string {
	var out []string
	counted := countedByWords(s, victims)
	for k, v := range counted {
		for _, b := range budgetsByWords(s) {
			about := aboutByWords(s, b)
			ahead := 0
			for _, other := range counted[:k] {
				if has(about, other) {
					ahead++
				}
			}
			if has(about, v) && ahead >= allowsByWords(s, b) {
				out = append(out, v)
				break
			}
		}
	}
	return out
}

func orderByWords(s api.State, names []string) []string {
	var out []string
	for _, n := range names {
		if _, there := podByWords(s, n); there && !has(out, n) {
			out = append(out, n)
		}
	}
	sort.Slice(out, func(i, j int) bool {
		a, _ := podByWords(s, out[i])
		b, _ := podByWords(s, out[j])
		return a.Priority > b.Priority || a.Priority == b.Priority && a.Name < b.Name
	})
	return out
}
