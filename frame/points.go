package frame

import "stevedore/api"

// rule is how a point is run: which code a plugin says there, and what comes of it. CodeOK: the run goes on; CodeWait: it goes on, and ends with CodeWait, if nothing else ends it; any other one ends it.
type rule struct {
	says func(p plugin) int
	does func(place, code int) int
}

// rules is those of the points at which plugins say a code, each at its point's number.
func (f *Frame) rules() [Unreserve]rule {
	return [Unreserve]rule{
		Before:  {func(p plugin) int { return p.Before }, f.before},
		Filter:  {func(p plugin) int { return p.Filter }, f.filter},
		Reserve: {func(p plugin) int { return p.Reserve }, f.reserve},
		Permit:  {func(p plugin) int { return p.Permit }, f.permit},
	}
}

// goThrough runs a point that has a rule, and tells the code with which the run ends.
func (f *Frame) goThrough(point int) int {
	r := f.rules()[point]
	end := api.CodeOK
	for place, p := range f.plugins {
		if point == Filter && p.skips {
			continue
		}
		f.note(place, point)
		switch code := r.does(place, r.says(p)); code {
		case api.CodeOK:
		case api.CodeWait:
			end = api.CodeWait
		default:
			return code
		}
	}
	return end
}

// note notes a call of the plugin at that place.
func (f *Frame) note(place, point int) { f.calls = append(f.calls, call{place, point}) }

// before lets the plugin skip from now on that says so, whatever ends the run later.
func (f *Frame) before(place, code int) int {
	if code == api.CodeSkip {
		f.plugins[place].skips = true
	}
	return atOnce(code)
}

func (f *Frame) filter(_, code int) int { return atOnce(code) }

// reserve gives back what was reserved so far, if the run ends; the plugin that ends it may have reserved something, too.
func (f *Frame) reserve(place, code int) int {
	end := atOnce(code)
	if end != api.CodeOK {
		f.giveBack(place)
	}
	return end
}

// permit alone lets a plugin wait.
func (f *Frame) permit(_, code int) int {
	if code == api.CodeWait {
		return api.CodeWait
	}
	return atOnce(code)
}

// atOnce is what comes of a code where nobody can wait.
func atOnce(code int) int {
	switch code {
	case api.CodeSkip:
		return api.CodeOK
	case api.CodeWait:
		return api.CodeError
	}
	return code
}

// giveBack unreserves the plugins up to and with the one at that place, the last one first.
func (f *Frame) giveBack(last int) {
	for place := last; place >= 0; place-- {
		f.note(place, Unreserve)
	}
}
