package frame_test

import (
	"slices"
	"strconv"

	"stevedore/api"
)

// model is a frame by the words alone.
type model struct {
	plugins []api.Plugin
	skips   []string
	calls   []string
}

func modelOf(l []api.Plugin) *model { return &model{plugins: copies(l)} }

func (m *model) call(p api.Plugin, point int) {
	m.calls = append(m.calls, p.Name+":"+strconv.Itoa(point))
}

func (m *model) Run(point int) (int, api.Errno) {
	switch point {
	case 1:
		return m.runBefore(), api.OK
	case 2:
		return m.runFilter(), api.OK
	case 3:
		return m.runReserve(), api.OK
	case 4:
		return m.runPermit(), api.OK
	case 5:
		m.unreserve(m.plugins)
		return 0, api.OK
	}
	return 0, api.ErrArg
}

func (m *model) runBefore() int {
	for _, p := range m.plugins {
		m.call(p, 1)
		switch p.Before {
		case 0:
		case 4:
			m.skips = append(m.skips, p.Name)
		case 1:
			return 1
		case 2, 3:
			return 2
		}
	}
	return 0
}

func (m *model) runFilter() int {
	for _, p := range m.plugins {
		if slices.Contains(m.skips, p.Name) {
			continue
		}
		m.call(p, 2)
		switch p.Filter {
		case 0, 4:
		case 1:
			return 1
		case 2, 3:
			return 2
		}
	}
	return 0
}

func (m *model) runReserve() int {
	for k, p := range m.plugins {
		m.call(p, 3)
		switch p.Reserve {
		case 0, 4:
		case 1:
			m.unreserve(m.plugins[:k+1])
			return 1
		case 2, 3:
			m.unreserve(m.plugins[:k+1])
			return 2
		}
	}
	return 0
}

func (m *model) runPermit() int {
	waits := 0
	for _, p := range m.plugins {
		m.call(p, 4)
		switch p.Permit {
		case 0, 4:
		case 3:
			waits++
		case 1:
			return 1
		case 2:
			return 2
		}
	}
	if waits > 0 {
		return 3
	}
	return 0
}

func (m *model) unreserve(l []api.Plugin) {
	for k := len(l); k > 0; k-- {
		m.call(l[k-1], 5)
	}
}

func (m *model) Scores() []int {
	if len(m.plugins) == 0 {
		return nil
	}
	var out []int
	for place := range m.plugins[0].Scores {
		sum := 0
		for _, p := range m.plugins {
			sum += p.Scores[place] * p.Weight
		}
		out = append(out, sum)
	}
	return out
}

func (m *model) Reset() { m.skips, m.calls = nil, nil }

func (m *model) Clone() *model {
	return &model{plugins: copies(m.plugins), skips: slices.Clone(m.skips), calls: slices.Clone(m.calls)}
}

// lookAtModel is what look tells of a frame that is as the model.
func lookAtModel(m *model) told {
	x := glanceAtModel(m)
	c := m.Clone()
	c.Reset()
	r := glanceAtModel(c)
	x.reset = &r
	return x
}

func glanceAtModel(m *model) told {
	x := told{scores: m.Scores(), calls: slices.Clone(m.calls), runs: map[int]outcome{}}
	for _, point := range append(allPoints(), noPoints()...) {
		c := m.Clone()
		code, e := c.Run(point)
		x.runs[point] = outcome{code, e, c.calls}
	}
	return x
}
