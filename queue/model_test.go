package queue_test

import (
	"cmp"
	"slices"

	"stevedore/api"
	"stevedore/queue"
)

// model is a queue by the words alone: lists that are gone through from the front.
type model struct {
	in    []spot
	hopes [][2]string // a name and a node
	added int
}

func newModel() *model { return &model{} }

func (m *model) at(name string) int {
	return slices.IndexFunc(m.in, func(s spot) bool { return s.entry.Name == name })
}

func (m *model) Add(name string, priority int) api.Errno {
	if name == "" {
		return api.ErrArg
	}
	if m.at(name) >= 0 {
		return api.ErrSame
	}
	m.in = append(m.in, spot{place: queue.Ready, entry: entry(name, priority, m.added, 0, 0)})
	m.added++
	return api.OK
}

func (m *model) Pop() (api.Waiting, api.Errno) {
	l := m.All(queue.Ready)
	if len(l) == 0 {
		return api.Waiting{}, api.ErrNone
	}
	w := l[0]
	k := m.at(w.Name)
	m.in = slices.Delete(m.in, k, k+1)
	if w.Tries < mostTries {
		w.Tries++
	}
	return w, api.OK
}

func (m *model) Back(w api.Waiting, now int, room bool) api.Errno {
	if w.Name == "" || now < 0 || now > lastNow {
		return api.ErrArg
	}
	if m.at(w.Name) >= 0 {
		return api.ErrSame
	}
	w.Till = now + delay(w.Tries)
	place := queue.Pooled
	if room {
		place = queue.Backs
	}
	m.in = append(m.in, spot{place: place, entry: w})
	return api.OK
}

// delay is how long one backs off, written out.
func delay(tries int) int {
	switch {
	case tries <= 0:
		return 0
	case tries == 1:
		return 1
	case tries == 2:
		return 2
	case tries == 3:
		return 4
	case tries == 4:
		return 8
	}
	return 16
}

func (m *model) Move(now int) (int, api.Errno) {
	if now < 0 || now > lastNow {
		return 0, api.ErrArg
	}
	n := 0
	for k := range m.in {
		s := &m.in[k]
		if s.place != queue.Pooled {
			continue
		}
		n++
		s.place = queue.Backs
		if s.entry.Till <= now {
			s.place = queue.Ready
		}
	}
	return n, api.OK
}

func (m *model) Tick(now int) (int, api.Errno) {
	if now < 0 || now > lastNow {
		return 0, api.ErrArg
	}
	n := 0
	for k := range m.in {
		if s := &m.in[k]; s.place == queue.Backs && s.entry.Till <= now {
			s.place = queue.Ready
			n++
		}
	}
	return n, api.OK
}

func (m *model) Drop(name string) api.Errno {
	k := m.at(name)
	if k < 0 {
		return api.ErrNone
	}
	m.in = slices.Delete(m.in, k, k+1)
	m.unhope(name)
	return api.OK
}

func (m *model) unhope(name string) {
	m.hopes = slices.DeleteFunc(m.hopes, func(h [2]string) bool { return h[0] == name })
}

func (m *model) Hope(name, node string) api.Errno {
	if name == "" {
		return api.ErrArg
	}
	m.unhope(name)
	if node != "" {
		m.hopes = append(m.hopes, [2]string{name, node})
	}
	return api.OK
}

func (m *model) Nominated(node string) []string {
	var l []string
	for _, h := range m.hopes {
		if h[1] == node {
			l = append(l, h[0])
		}
	}
	slices.Sort(l)
	return l
}

func (m *model) Place(name string) (int, api.Waiting, api.Errno) {
	k := m.at(name)
	if k < 0 {
		return 0, api.Waiting{}, api.ErrNone
	}
	return m.in[k].place, m.in[k].entry, api.OK
}

func (m *model) All(place int) []api.Waiting {
	var l []api.Waiting
	for _, s := range m.in {
		if s.place == place {
			l = append(l, s.entry)
		}
	}
	slices.SortFunc(l, func(a, b api.Waiting) int {
		c := cmp.Or(cmp.Compare(a.Seq, b.Seq), cmp.Compare(a.Name, b.Name))
		if place == queue.Ready {
			c = cmp.Or(cmp.Compare(b.Priority, a.Priority), c)
		}
		return c
	})
	return l
}

func (m *model) Clone() *model {
	return &model{in: slices.Clone(m.in), hopes: slices.Clone(m.hopes), added: m.added}
}

// lookAtModel is what look tells of a queue that is as the model.
func lookAtModel(m *model) told {
	x := told{all: map[int][]api.Waiting{}, placed: map[string]spot{}, nominated: map[string][]string{}, next: m.added}
	for _, place := range append(allPlaces(), noPlaces()...) {
		x.all[place] = m.All(place)
	}
	for _, name := range someNames() {
		place, w, e := m.Place(name)
		x.placed[name] = spot{place, w, e}
	}
	for _, node := range someNodes() {
		x.nominated[node] = m.Nominated(node)
	}
	c := m.Clone()
	for {
		w, e := c.Pop()
		if e != api.OK {
			return x
		}
		x.popped = append(x.popped, w)
	}
}
