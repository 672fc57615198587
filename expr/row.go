package expr

import "surmise/api"

// row is the numbers that wait; each is a value. No more than there are instructions ever do, so that it needs no check of its room.
type row struct {
	numbers [api.MaxCode]int
	count   int
}

// put puts a number behind the last one.
func (r *row) put(n int) {
	r.numbers[r.count] = n
	r.count++
}

// take takes the last number away.
func (r *row) take() int {
	r.count--
	return r.numbers[r.count]
}

// do does an instruction that takes numbers; it tells whether what comes of them is a value, and so was put.
func (r *row) do(op int) bool {
	last := r.take()
	var n int
	switch op {
	case api.Neg:
		n = -last
	case api.Not:
		n = truth(last == 0)
	case api.If:
		middle := r.take()
		n = choice(r.take(), middle, last)
	default:
		done := pair{r.take(), last}.told(op)
		n = done()
	}
	if !isValue(n) {
		return false
	}
	r.put(n)
	return true
}

// pair is the two values that an instruction takes, in the order in which they were put.
type pair struct {
	a, b int
}

// told is what an instruction does to the two.
func (p pair) told(op int) func() int {
	switch op {
	case api.Add:
		return p.sum
	case api.Sub:
		return p.difference
	case api.Mul:
		return p.product
	case api.Min:
		return p.least
	case api.Max:
		return p.greatest
	case api.Less:
		return p.less
	case api.Most:
		return p.most
	case api.Same:
		return p.same
	case api.And:
		return p.both
	}
	return p.either // Or is the only one left
}

func (p pair) sum() int        { return p.a + p.b }
func (p pair) difference() int { return p.a - p.b }

// product divides ahead of multiplying: the product of two values may be no int. One that is no value becomes some number that is none.
func (p pair) product() int {
	if p.a != 0 && size(p.b) > api.MaxValue/size(p.a) {
		return api.MaxValue + 1
	}
	return p.a * p.b
}

func (p pair) least() int    { return min(p.a, p.b) }
func (p pair) greatest() int { return max(p.a, p.b) }
func (p pair) less() int     { return truth(p.a < p.b) }
func (p pair) most() int     { return truth(p.a <= p.b) }
func (p pair) same() int     { return truth(p.a == p.b) }
func (p pair) both() int     { return truth(p.a != 0 && p.b != 0) }
func (p pair) either() int   { return truth(p.a != 0 || p.b != 0) }

func choice(a, b, c int) int {
	if a != 0 {
		return b
	}
	return c
}

func truth(so bool) int {
	if so {
		return 1
	}
	return 0
}

// size is a value without its sign.
func size(n int) int {
	return max(n, -n)
}
