package frame

import (
	"slices"
	"strconv"

	"stevedore/api"
)

// plugin is a plugin as it was told, and whether it skips.
type plugin struct {
	api.Plugin
	skips bool // it is not called to filter any more
}

// call is one that was noted: of the plugin at that place, at that point.
type call struct{ place, point int }

// noted is the text of a call of p.
func (p plugin) noted(point int) string { return p.Name + ":" + strconv.Itoa(point) }

// isRight asks whether a list of plugins is.
func isRight(l []api.Plugin) bool {
	if len(l) > api.MaxItems {
		return false
	}
	for k, p := range l {
		if p.Name == "" || hasName(l[:k], p.Name) || !hasNumbers(p) || len(p.Scores) != len(l[0].Scores) {
			return false
		}
	}
	return true
}

func hasName(l []api.Plugin, name string) bool {
	return slices.ContainsFunc(l, func(p api.Plugin) bool { return p.Name == name })
}

// hasNumbers asks whether all numbers of p are of those that may be.
func hasNumbers(p api.Plugin) bool {
	for _, code := range [...]int{p.Before, p.Filter, p.Reserve, p.Permit} {
		if !isWithin(code, api.CodeSkip) {
			return false
		}
	}
	for _, n := range p.Scores {
		if !isWithin(n, api.MaxScore) {
			return false
		}
	}
	return isWithin(p.Weight, api.MaxWeight)
}

func isWithin(n, most int) bool { return n >= 0 && n <= most }
