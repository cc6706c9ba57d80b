package near

import (
	"strconv"

	"stevedore/api"
)

// likeness is a text that two that are placed have in common just if they are just alike. A text and not the thing itself: it can be a map's key, and shares nothing with what is handed in.
func likeness(x api.Placed) string {
	var s sheet
	s.pod(x.Pod)
	s.labels(x.Labels)
	return string(s.out)
}

// sheet is where a likeness is written. Each number ends, and each text and list is written behind its length, so that no two things are written alike; a list without members is written the same, nil or not.
type sheet struct{ out []byte }

func (s *sheet) number(n int) {
	s.out = append(strconv.AppendInt(s.out, int64(n), 10), ' ')
}

func (s *sheet) text(t string) {
	s.number(len(t))
	s.out = append(s.out, t...)
}

func (s *sheet) flag(is bool) { s.out = strconv.AppendBool(s.out, is) }

// list writes the members of l one by one.
func list[T any](s *sheet, l []T, one func(T)) {
	s.number(len(l))
	for _, x := range l {
		one(x)
	}
}

func (s *sheet) pod(p api.Pod) {
	s.text(p.Name)
	s.number(p.Priority)
	s.labels(p.Labels)
	s.number(p.Want.CPU)
	s.number(p.Want.Mem)
	s.number(p.Want.Disk)
	list(s, p.Bears, s.bear)
	s.reqs(p.Asks)
	list(s, p.Prefers, s.prefer)
	list(s, p.Ports, s.number)
	list(s, p.Near, s.term)
	list(s, p.Apart, s.term)
	list(s, p.Spreads, s.spread)
	list(s, p.Claims, s.text)
	s.text(p.Node)
	s.text(p.Hope)
}

func (s *sheet) labels(l []api.Label) { list(s, l, s.label) }

func (s *sheet) label(l api.Label) {
	s.text(l.Key)
	s.text(l.Value)
}

func (s *sheet) bear(b api.Bear) {
	s.text(b.Key)
	s.text(b.Value)
	s.flag(b.Any)
	s.number(b.Effect)
}

func (s *sheet) reqs(l []api.Req) { list(s, l, s.req) }

func (s *sheet) req(r api.Req) {
	s.text(r.Key)
	s.number(r.Op)
	list(s, r.Values, s.text)
}

func (s *sheet) prefer(p api.Prefer) {
	s.reqs(p.Reqs)
	s.number(p.Weight)
}

func (s *sheet) term(t api.Term) {
	s.reqs(t.Reqs)
	s.text(t.Key)
}

func (s *sheet) spread(x api.Spread) {
	s.text(x.Key)
	s.number(x.Skew)
	s.number(x.Least)
	s.reqs(x.Reqs)
}
