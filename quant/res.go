package quant

import "stevedore/api"

// amount is a member of a Res. It has methods, so that what is done member by member can be handed on as a method expression.
type amount int

func (a amount) plus(b amount) amount { return amount(Add(int(a), int(b))) }

func (a amount) minus(b amount) amount { return amount(Sub(int(a), int(b))) }

// members are a Res's three, in its order.
type members [3]amount

func split(r api.Res) members {
	return members{amount(r.CPU), amount(r.Mem), amount(r.Disk)}
}

func (m members) join() api.Res {
	return api.Res{CPU: int(m[0]), Mem: int(m[1]), Disk: int(m[2])}
}

// each does one thing with every member of a and its like of b.
func each(do func(a, b amount) amount, a, b api.Res) api.Res {
	x, y := split(a), split(b)
	var out members
	for i := range out {
		out[i] = do(x[i], y[i])
	}
	return out.join()
}

// Plus is Add, member by member.
func Plus(a, b api.Res) api.Res { return each(amount.plus, a, b) }

// Minus is Sub, member by member.
func Minus(a, b api.Res) api.Res { return each(amount.minus, a, b) }

// Fits tells whether no member of want is above free's.
func Fits(want, free api.Res) bool {
	// Minus stops at nothing: something is left just where want is above free.
	return Minus(want, free) == api.Res{}
}

// Sum is all of l together; of none it is nothing.
func Sum(l ...api.Res) api.Res {
	var sum api.Res
	for _, r := range l {
		sum = Plus(sum, r)
	}
	return sum
}
