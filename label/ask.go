package label

import (
	"cmp"
	"slices"
	"strings"

	"stevedore/api"
)

// Get is the value of the first label of that key, and whether there is one.
func Get(l []api.Label, key string) (string, bool) {
	for _, x := range l {
		if x.Key == key {
			return x.Value, true
		}
	}
	return "", false
}

// Same asks whether both have the key, with one value.
func Same(a, b []api.Label, key string) bool {
	v, inA := Get(a, key)
	w, inB := Get(b, key)
	return inA && inB && v == w
}

// Match asks whether labels meet all that is asked.
func Match(l []api.Label, reqs []api.Req) bool {
	for _, r := range reqs {
		if !Meets(l, r) {
			return false
		}
	}
	return true
}

// Meets asks whether labels meet what is asked.
func Meets(l []api.Label, r api.Req) bool {
	value, there := Get(l, r.Key)
	met := ask{value, there, r.Values}.by(r.Op)
	return met()
}

// ask is all that counts when labels are held against a Req: what they have of its key, and its values. Labels of other keys are left behind here.
type ask struct {
	value  string
	there  bool
	values []string
}

// by is the question that an Op puts.
func (a ask) by(op int) func() bool {
	switch op {
	case api.OpIn:
		return a.in
	case api.OpNotIn:
		return a.notIn
	case api.OpExists:
		return a.exists
	case api.OpLacks:
		return a.lacks
	case api.OpAbove:
		return a.above
	case api.OpBelow:
		return a.below
	}
	return a.never
}

func (a ask) in() bool { return a.there && slices.Contains(a.values, a.value) }

func (a ask) notIn() bool { return !a.in() }

func (a ask) exists() bool { return a.there }

func (a ask) lacks() bool { return !a.there }

func (a ask) above() bool { return a.inNumbers() && compareNumbers(a.value, a.values[0]) > 0 }

func (a ask) below() bool { return a.inNumbers() && compareNumbers(a.value, a.values[0]) < 0 }

func (a ask) never() bool { return false }

// inNumbers asks whether both sides are numbers, so that they can be held against each other.
func (a ask) inNumbers() bool { return a.there && isNumber(a.value) && oneNumber(a.values) }

// compareNumbers holds digits against each other: as no 0 leads them, the longer ones are the greater number.
func compareNumbers(a, b string) int {
	return cmp.Or(cmp.Compare(len(a), len(b)), strings.Compare(a, b))
}
