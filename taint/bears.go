package taint

import (
	"slices"

	"stevedore/api"
)

// Bears asks whether b bears the taint: whether what b means, as close to the taint as b leaves open, is the taint.
func Bears(b api.Bear, t api.Taint) bool { return meant(b, t) == t }

// meant is the taint that b tells of, with t's members where b leaves them open.
func meant(b api.Bear, t api.Taint) api.Taint {
	m := api.Taint{Key: b.Key, Value: b.Value, Effect: b.Effect}
	if b.Effect == 0 {
		m.Effect = t.Effect
	}
	if b.Any {
		m.Value = t.Value
	}
	if b.Any && b.Key == "" {
		m.Key = t.Key
	}
	return m
}

// Kept is the first taint with EffectKeep that nothing of bears bears, and whether there is one.
func Kept(l []api.Taint, bears []api.Bear) (api.Taint, bool) {
	i := slices.IndexFunc(l, unborne(api.EffectKeep, bears))
	if i < 0 {
		return api.Taint{}, false
	}
	return l[i], true
}

// Shy is how many taints with EffectShy nothing of bears bears.
func Shy(l []api.Taint, bears []api.Bear) int {
	open := unborne(api.EffectShy, bears)
	n := 0
	for _, t := range l {
		if open(t) {
			n++
		}
	}
	return n
}

// unborne is what tells the taints with that effect that nothing of bears bears.
func unborne(effect int, bears []api.Bear) func(api.Taint) bool {
	return func(t api.Taint) bool {
		return t.Effect == effect && !borne(t, bears)
	}
}

func borne(t api.Taint, bears []api.Bear) bool {
	return slices.ContainsFunc(bears, func(b api.Bear) bool { return Bears(b, t) })
}
