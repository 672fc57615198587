package expr_test

import (
	"math"
	"math/big"
	"math/rand"
	"slices"
	"testing"

	"surmise/api"
	"surmise/expr"
)

const top = api.MaxValue

// ins makes an instruction: what it does, and its number (0, if none is told).
func ins(op int, n ...int) api.Ins {
	return api.Ins{Op: op, N: append(n, 0)[0]}
}

// constant, variable and argument are the instructions that put a number.
func constant(n int) api.Ins { return api.Ins{Op: api.Const, N: n} }
func variable(n int) api.Ins { return api.Ins{Op: api.Var, N: n} }
func argument(n int) api.Ins { return api.Ins{Op: api.Arg, N: n} }

// list puts instructions without an N, told by their Ops, behind others.
func list(heads []api.Ins, ops ...int) []api.Ins {
	code := slices.Clone(heads)
	for _, op := range ops {
		code = append(code, ins(op))
	}
	return code
}

// constants puts numbers, and then does what the Ops tell.
func constants(numbers []int, ops ...int) []api.Ins {
	var heads []api.Ins
	for _, n := range numbers {
		heads = append(heads, constant(n))
	}
	return list(heads, ops...)
}

// aMinusTwoB is a - b * 2.
func aMinusTwoB() []api.Ins {
	return list([]api.Ins{variable(0), variable(1), constant(2)}, api.Mul, api.Sub)
}

// sumOfOnes has so many instructions, an odd number of them, and may be.
func sumOfOnes(n int) []api.Ins {
	code := []api.Ins{constant(1)}
	for len(code) < n {
		code = append(code, constant(1), ins(api.Add))
	}
	return code
}

// numberEdges: numbers at which something changes: a sign, what a value is, what an int is.
func numberEdges() []int {
	l := []int{0, 1, -1, 2, -2, 5, 6, top - 1, top, top + 1, -top + 1, -top, -top - 1, 1 << 20, -1 << 20, 1<<20 + 1, 1<<20 - 1}
	return append(l, 1<<32, 1<<62, math.MaxInt, math.MaxInt-1, math.MinInt, math.MinInt+1)
}

// valueEdges: those that are values.
func valueEdges() []int {
	return slices.DeleteFunc(numberEdges(), func(n int) bool { return n < -top || n > top })
}

// needs: how many numbers each instruction takes, by its Op; below 0, where there is none.
func needs(op int) int {
	if op < 1 || op > 16 {
		return -1
	}
	return []int{0, 0, 0, 0, 1, 1, 2, 2, 2, 2, 2, 2, 2, 2, 2, 2, 3}[op]
}

// allCodes: every code of at most so many instructions out of these.
func allCodes(most int, of []api.Ins, visit func([]api.Ins)) {
	var grow func(code []api.Ins)
	grow = func(code []api.Ins) {
		visit(slices.Clone(code))
		if len(code) == most {
			return
		}
		for _, one := range of {
			grow(append(code[:len(code):len(code)], one))
		}
	}
	grow(nil)
}

// someOfEach: at least an instruction of each sort, and some that may not be.
func someOfEach() []api.Ins {
	return []api.Ins{
		constant(0), constant(3), constant(top), constant(-top), constant(top + 1), variable(0), variable(1), argument(0), argument(-1),
		ins(api.Neg), ins(api.Not), ins(api.Add), ins(api.Sub), ins(api.Mul), ins(api.Less), ins(api.Or), ins(api.If), ins(api.If, 1), ins(0), ins(17),
	}
}

// fewOfMost: so few that all long codes of them can be gone through.
func fewOfMost() []api.Ins {
	return []api.Ins{constant(2), constant(top), variable(0), ins(api.Neg), ins(api.Sub), ins(api.Mul), ins(api.If)}
}

// manyCodes visits ones of all sorts.
func manyCodes(visit func([]api.Ins)) {
	allCodes(3, someOfEach(), visit)
	allCodes(6, fewOfMost(), visit)
	source := rand.New(rand.NewSource(3))
	for range 20000 {
		code := make([]api.Ins, source.Intn(35))
		for i := range code {
			code[i] = someOfEach()[source.Intn(len(someOfEach()))]
		}
		visit(code)
	}
	for range 20000 {
		visit(chanceTree(source, 1+source.Intn(api.MaxCode)).code())
	}
}

// ---- Expressions as trees: another way to reckon them, without a row.

type tree struct {
	ins      api.Ins
	branches []tree
}

// chanceTree: one of so many instructions, or one less.
func chanceTree(source *rand.Rand, size int) tree {
	switch {
	case size >= 4 && source.Intn(3) == 0:
		first := 1 + source.Intn(size-3)
		second := 1 + source.Intn(size-2-first)
		third := size - 1 - first - second
		return tree{ins(api.If), []tree{chanceTree(source, first), chanceTree(source, second), chanceTree(source, third)}}
	case size >= 3 && source.Intn(5) > 0:
		first := 1 + source.Intn(size-2)
		return tree{ins(api.Add + source.Intn(10)), []tree{chanceTree(source, first), chanceTree(source, size-1-first)}}
	case size >= 2:
		return tree{ins(api.Neg + source.Intn(2)), []tree{chanceTree(source, size-1)}}
	case source.Intn(5) == 0:
		return tree{variable(source.Intn(3)), nil}
	case source.Intn(5) == 0:
		return tree{argument(source.Intn(2)), nil}
	}
	numbers := valueEdges()
	return tree{constant(numbers[source.Intn(len(numbers))]), nil}
}

// code puts the branches' instructions one behind the other, and then its own.
func (t tree) code() []api.Ins {
	var code []api.Ins
	for _, b := range t.branches {
		code = append(code, b.code()...)
	}
	return append(code, t.ins)
}

// asTree: what a code that may be is a tree of; ok is false, if it is none.
func asTree(code []api.Ins) (tree, bool) {
	var done []tree
	for _, one := range code {
		n := needs(one.Op)
		if n < 0 || n > len(done) {
			return tree{}, false
		}
		branches := slices.Clone(done[len(done)-n:])
		done = append(done[:len(done)-n], tree{one, branches})
	}
	if len(done) != 1 {
		return tree{}, false
	}
	return done[0], true
}

// flag: the number 1, or 0.
func flag(so bool) *big.Int {
	if so {
		return big.NewInt(1)
	}
	return new(big.Int)
}

// reckoned: what an instruction makes of numbers, with numbers of any size.
func reckoned(op int, l []*big.Int) *big.Int {
	there := func(i int) bool { return l[i].Sign() != 0 }
	switch op {
	case api.Neg:
		return new(big.Int).Neg(l[0])
	case api.Not:
		return flag(!there(0))
	case api.Add:
		return new(big.Int).Add(l[0], l[1])
	case api.Sub:
		return new(big.Int).Sub(l[0], l[1])
	case api.Mul:
		return new(big.Int).Mul(l[0], l[1])
	case api.Min, api.Max:
		if (l[0].Cmp(l[1]) < 0) == (op == api.Min) {
			return l[0]
		}
		return l[1]
	case api.Less:
		return flag(l[0].Cmp(l[1]) < 0)
	case api.Most:
		return flag(l[0].Cmp(l[1]) <= 0)
	case api.Same:
		return flag(l[0].Cmp(l[1]) == 0)
	case api.And:
		return flag(there(0) && there(1))
	case api.Or:
		return flag(there(0) || there(1))
	}
	if there(0) {
		return l[1]
	}
	return l[2]
}

func bigIsValue(n *big.Int) bool {
	return n.CmpAbs(big.NewInt(top)) <= 0
}

// comesTo: what a tree comes to; ok is false, if that is nothing.
func (t tree) comesTo(vars, args []int) (*big.Int, bool) {
	switch t.ins.Op {
	case api.Const:
		return big.NewInt(int64(t.ins.N)), true
	case api.Var:
		return big.NewInt(int64(vars[t.ins.N])), true
	case api.Arg:
		return big.NewInt(int64(args[t.ins.N])), true
	}
	var l []*big.Int
	for _, b := range t.branches {
		n, ok := b.comesTo(vars, args)
		if !ok {
			return nil, false
		}
		l = append(l, n)
	}
	n := reckoned(t.ins.Op, l)
	return n, bigIsValue(n)
}

// folded: the tree in which each one whose branches are constants, when they are folded, is the constant that they come to, if that is a value.
func (t tree) folded() tree {
	if len(t.branches) == 0 {
		return t
	}
	f := tree{t.ins, nil}
	var l []*big.Int
	for _, b := range t.branches {
		b = b.folded()
		f.branches = append(f.branches, b)
		if b.ins.Op == api.Const {
			l = append(l, big.NewInt(int64(b.ins.N)))
		}
	}
	if len(l) < len(f.branches) {
		return f
	}
	if n := reckoned(t.ins.Op, l); bigIsValue(n) {
		return tree{constant(int(n.Int64())), nil}
	}
	return f
}

// ---- P3.1 (Check)

// wantedCheck: what the document says.
func wantedCheck(code []api.Ins, vars, args int) (int, api.Errno) {
	if vars < 0 || args < 0 {
		return 0, api.ErrArg
	}
	if len(code) > 31 {
		return 0, api.ErrBig
	}
	numbers := 0
	for i, one := range code {
		least, most := 0, 0
		switch one.Op {
		case api.Const:
			least, most = -1<<40, 1<<40
		case api.Var:
			most = vars - 1
		case api.Arg:
			most = args - 1
		}
		if needs(one.Op) < 0 {
			return i, api.ErrArg
		}
		if one.N < least || one.N > most {
			return i, api.ErrRange
		}
		if numbers < needs(one.Op) {
			return i, api.ErrShort
		}
		numbers -= needs(one.Op) - 1
	}
	if numbers != 1 {
		return len(code), api.ErrForm
	}
	return 0, api.OK
}

func checkCheck(t *testing.T, code []api.Ins, vars, args int) {
	t.Helper()
	at, e := expr.Check(code, vars, args)
	if place, errno := wantedCheck(code, vars, args); at != place || e != errno {
		t.Fatalf("%v with %d, %d: %d, %v; not %d, %v", code, vars, args, at, e, place, errno)
	}
}

func TestCheck(t *testing.T) {
	for _, c := range []struct {
		code       []api.Ins
		vars, args int
		at         int
		e          api.Errno
	}{
		{aMinusTwoB(), 2, 0, 0, api.OK}, {aMinusTwoB(), math.MaxInt, math.MaxInt, 0, api.OK},
		{constants([]int{5}), 0, 0, 0, api.OK}, {constants([]int{1, 2, 3}, api.If), 0, 0, 0, api.OK},
		{[]api.Ins{argument(3)}, 0, 4, 0, api.OK}, {[]api.Ins{variable(5)}, 6, 0, 0, api.OK},
		{[]api.Ins{variable(100)}, 101, 0, 0, api.OK}, {[]api.Ins{argument(100)}, 0, 101, 0, api.OK},
		{constants([]int{top}), 0, 0, 0, api.OK}, {constants([]int{-top}), 0, 0, 0, api.OK},
		{sumOfOnes(31), 0, 0, 0, api.OK},
		{slices.Concat(slices.Repeat(constants([]int{1}), 16), list(nil, slices.Repeat([]int{api.Add}, 15)...)), 0, 0, 0, api.OK},
		{slices.Concat(slices.Repeat(constants([]int{1}), 21), list(nil, slices.Repeat([]int{api.If}, 10)...)), 0, 0, 0, api.OK},

		{nil, -1, 0, 0, api.ErrArg}, {aMinusTwoB(), -1, 0, 0, api.ErrArg}, {aMinusTwoB(), 2, -1, 0, api.ErrArg},
		{aMinusTwoB(), math.MinInt, 0, 0, api.ErrArg}, {aMinusTwoB(), 2, math.MinInt, 0, api.ErrArg},
		{sumOfOnes(33), -1, 0, 0, api.ErrArg}, {sumOfOnes(33), 0, -1, 0, api.ErrArg}, // ahead of ErrBig

		{sumOfOnes(33), 0, 0, 0, api.ErrBig}, {list(sumOfOnes(31), api.Neg), 0, 0, 0, api.ErrBig},
		{slices.Repeat([]api.Ins{ins(0)}, 32), 0, 0, 0, api.ErrBig}, {list(nil, slices.Repeat([]int{api.Add}, 5000)...), 0, 0, 0, api.ErrBig},

		{[]api.Ins{ins(0)}, 0, 0, 0, api.ErrArg}, {constants([]int{1}, 17), 0, 0, 1, api.ErrArg},
		{constants([]int{1}, -1), 0, 0, 1, api.ErrArg}, {constants([]int{1, 2}, math.MaxInt), 0, 0, 2, api.ErrArg},
		{constants([]int{1, 2}, math.MinInt), 0, 0, 2, api.ErrArg}, {list(sumOfOnes(29), 0), 0, 0, 29, api.ErrArg},
		{[]api.Ins{ins(17, 5)}, 0, 0, 0, api.ErrArg}, // ahead of ErrRange and ErrShort

		{constants([]int{top + 1}), 0, 0, 0, api.ErrRange}, {constants([]int{1, -top - 1}, api.Add), 0, 0, 1, api.ErrRange},
		{aMinusTwoB(), 1, 0, 1, api.ErrRange}, {aMinusTwoB(), 0, 5, 0, api.ErrRange}, {[]api.Ins{argument(0)}, 5, 0, 0, api.ErrRange},
		{[]api.Ins{variable(-1)}, 5, 5, 0, api.ErrRange}, {[]api.Ins{argument(math.MinInt)}, 5, 5, 0, api.ErrRange},
		{[]api.Ins{variable(math.MaxInt)}, math.MaxInt, 0, 0, api.ErrRange}, {[]api.Ins{argument(4)}, 0, 4, 0, api.ErrRange},
		{[]api.Ins{constant(1), ins(api.Neg, 1)}, 0, 0, 1, api.ErrRange}, {[]api.Ins{constant(1), ins(api.Not, -1)}, 0, 0, 1, api.ErrRange},
		{[]api.Ins{ins(api.Add, 1)}, 0, 0, 0, api.ErrRange}, {[]api.Ins{ins(api.If, math.MaxInt)}, 0, 0, 0, api.ErrRange}, // ahead of ErrShort

		{list(nil, api.Neg), 0, 0, 0, api.ErrShort}, {list(nil, api.Add), 0, 0, 0, api.ErrShort},
		{constants([]int{1}, api.Add), 0, 0, 1, api.ErrShort}, {constants([]int{1, 2}, api.If), 0, 0, 2, api.ErrShort},
		{constants([]int{1, 2}, api.Add, api.Add), 0, 0, 3, api.ErrShort},
		{constants([]int{1}, api.Or, 0), 0, 0, 1, api.ErrShort}, // the first one tells, whatever stands behind it
		{constants([]int{1, top + 1}, 0, api.If), 0, 0, 1, api.ErrRange},

		{nil, 0, 0, 0, api.ErrForm}, {[]api.Ins{}, 3, 3, 0, api.ErrForm}, {constants([]int{1, 2}), 0, 0, 2, api.ErrForm},
		{constants([]int{1, 2, 3}, api.Add), 0, 0, 4, api.ErrForm}, {slices.Repeat(constants([]int{7}), 31), 0, 0, 31, api.ErrForm},
	} {
		if at, e := expr.Check(c.code, c.vars, c.args); at != c.at || e != c.e {
			t.Errorf("%v with %d, %d: %d, %v; not %d, %v", c.code, c.vars, c.args, at, e, c.at, c.e)
		}
	}
}

// TestCheckOfEachInstruction: each Op, and ones that are none, with each N, when ever more numbers wait.
func TestCheckOfEachInstruction(t *testing.T) {
	ops := []int{math.MinInt, math.MaxInt, 1 << 32, 1<<32 + 1, 256 + 6}
	for op := -3; op < 40; op++ {
		ops = append(ops, op)
	}
	for _, op := range ops {
		for _, n := range numberEdges() {
			for waiting := range 5 {
				for _, counts := range [][2]int{{0, 0}, {1, 0}, {0, 1}, {6, 4}, {math.MaxInt, math.MaxInt}, {-1, 1}, {1, -1}} {
					code := append(slices.Repeat(constants([]int{1}), waiting), ins(op, n))
					checkCheck(t, code, counts[0], counts[1])
				}
			}
		}
	}
}

func TestCheckOfAnyCode(t *testing.T) {
	manyCodes(func(code []api.Ins) {
		for _, counts := range [][2]int{{0, 0}, {2, 1}, {3, 2}, {-1, 0}} {
			checkCheck(t, code, counts[0], counts[1])
		}
	})
}

// ---- P3.2 (Eval)

func TestEval(t *testing.T) {
	for _, c := range []struct {
		code       []api.Ins
		vars, args []int
		want       int
		e          api.Errno
	}{
		{aMinusTwoB(), []int{7, 2}, nil, 3, api.OK}, {aMinusTwoB(), []int{7, 2, 9}, []int{1}, 3, api.OK},
		{[]api.Ins{argument(1)}, []int{1, 2}, []int{3, -4}, -4, api.OK}, {[]api.Ins{variable(1)}, []int{1, 2}, []int{3, -4}, 2, api.OK},
		{constants([]int{5, 8}, api.Sub), nil, nil, -3, api.OK}, {constants([]int{5, 8}, api.Less), nil, nil, 1, api.OK},
		{constants([]int{8, 5}, api.Less), nil, nil, 0, api.OK}, {constants([]int{8, 5}, api.Most), nil, nil, 0, api.OK},
		{constants([]int{5, 5}, api.Less), nil, nil, 0, api.OK}, {constants([]int{5, 5}, api.Most), nil, nil, 1, api.OK},
		{constants([]int{7, 8, 9}, api.If), nil, nil, 8, api.OK}, {constants([]int{-7, 8, 9}, api.If), nil, nil, 8, api.OK},
		{constants([]int{0, 8, 9}, api.If), nil, nil, 9, api.OK}, {sumOfOnes(31), nil, nil, 16, api.OK},
		{constants([]int{5, 8}, api.Neg, api.Sub), nil, nil, 13, api.OK},

		// Check's error, without its place, and ahead of what numbers may be.
		{aMinusTwoB(), []int{7}, nil, 0, api.ErrRange}, {nil, nil, nil, 0, api.ErrForm}, {constants([]int{1, 2}), nil, nil, 0, api.ErrForm},
		{constants([]int{1}, api.Add), nil, nil, 0, api.ErrShort}, {constants([]int{1}, 0), nil, nil, 0, api.ErrArg},
		{sumOfOnes(33), nil, nil, 0, api.ErrBig}, {sumOfOnes(33), []int{top + 1}, nil, 0, api.ErrBig},
		{constants([]int{1, 2}), []int{top + 1}, nil, 0, api.ErrForm}, {constants([]int{1}, api.Add), nil, []int{top + 1}, 0, api.ErrShort},
		{aMinusTwoB(), nil, []int{7, 2}, 0, api.ErrRange}, {[]api.Ins{argument(0)}, []int{7}, nil, 0, api.ErrRange},

		// Variables and arguments that are no values, though nobody names them, and ahead of what they come to.
		{aMinusTwoB(), []int{7, top + 1}, nil, 0, api.ErrArg}, {aMinusTwoB(), []int{7, 2, -top - 1}, nil, 0, api.ErrArg},
		{aMinusTwoB(), []int{7, 2}, []int{0, math.MinInt}, 0, api.ErrArg}, {constants([]int{1}), []int{math.MaxInt}, nil, 0, api.ErrArg},
		{constants([]int{1}), nil, []int{0, 0, 0, 0, 0, 0, 0, top + 1}, 0, api.ErrArg},
		{constants([]int{top, top}, api.Add), []int{top + 1}, nil, 0, api.ErrArg},

		// Numbers on the way that are no values, though what is left would be one, and though nobody chooses it.
		{aMinusTwoB(), []int{0, top}, nil, 0, api.ErrRange}, {constants([]int{top, 1}, api.Add), nil, nil, 0, api.ErrRange},
		{constants([]int{-top, 1}, api.Sub), nil, nil, 0, api.ErrRange}, {constants([]int{-top, -1}, api.Sub), nil, nil, -top + 1, api.OK},
		{list(append(constants([]int{top, 1}, api.Add), constant(0)), api.And), nil, nil, 0, api.ErrRange},
		{list(append(constants([]int{top, 1}, api.Add), constant(5)), api.Sub), nil, nil, 0, api.ErrRange},
		{append(constants([]int{1, 5, top, top}, api.Mul), ins(api.If)), nil, nil, 0, api.ErrRange},
		{constants([]int{top, top}, api.Mul), nil, nil, 0, api.ErrRange}, {constants([]int{-top, top}, api.Mul), nil, nil, 0, api.ErrRange},
		{constants([]int{1 << 32, 1 << 32}, api.Mul), nil, nil, 0, api.ErrRange}, // 0, if ints went round
		{constants([]int{1 << 20, 1 << 20}, api.Mul), nil, nil, top, api.OK}, {constants([]int{1 << 20, -1 << 20}, api.Mul), nil, nil, -top, api.OK},
		{constants([]int{1<<20 + 1, 1 << 20}, api.Mul), nil, nil, 0, api.ErrRange}, {constants([]int{0, top}, api.Mul), nil, nil, 0, api.OK},
		{constants([]int{top}, api.Neg), nil, nil, -top, api.OK}, {constants([]int{-top}, api.Neg), nil, nil, top, api.OK},
	} {
		if got, e := expr.Eval(c.code, c.vars, c.args); got != c.want || e != c.e {
			t.Errorf("%v with %v, %v: %d, %v; not %d, %v", c.code, c.vars, c.args, got, e, c.want, c.e)
		}
	}
}

// evalOne does an instruction on numbers that come as constants, as variables and as arguments.
func evalOne(t *testing.T, op int, numbers ...int) {
	t.Helper()
	l, named, given := []*big.Int{}, []api.Ins{}, []api.Ins{}
	for i, n := range numbers {
		l, named, given = append(l, big.NewInt(int64(n))), append(named, variable(i)), append(given, argument(i))
	}
	wanted, errno := reckoned(op, l), api.OK
	if !bigIsValue(wanted) {
		wanted, errno = new(big.Int), api.ErrRange
	}
	for i, got := range []func() (int, api.Errno){
		func() (int, api.Errno) { return expr.Eval(constants(numbers, op), nil, nil) },
		func() (int, api.Errno) { return expr.Eval(list(named, op), numbers, nil) },
		func() (int, api.Errno) { return expr.Eval(list(given, op), nil, numbers) },
	} {
		if n, e := got(); e != errno || big.NewInt(int64(n)).Cmp(wanted) != 0 {
			t.Errorf("%d of %v, way %d: %d, %v; not %v, %v", op, numbers, i, n, e, wanted, errno)
		}
	}
}

func TestEvalOfEachInstruction(t *testing.T) {
	numbers := valueEdges()
	numbers = append(numbers, 3, -3, 1<<39, -1<<39, 1<<39+1, 1048575, 1048577, 1<<24, 1<<16)
	for _, a := range numbers {
		for op := api.Neg; op <= api.Not; op++ {
			evalOne(t, op, a)
		}
		for _, b := range numbers {
			for op := api.Add; op <= api.Or; op++ {
				evalOne(t, op, a, b)
			}
			for _, c := range numbers {
				evalOne(t, api.If, a, b, c)
			}
		}
	}
}

// numberRows: variables, or arguments.
func numberRows() [][]int {
	return [][]int{{0, 0, 0}, {1, 2, 3}, {top, -top, 1}, {-1, top - 1, -top}, {1 << 20, -1 << 20, 1<<20 + 1}, {5, 0, top}}
}

// wantedEval: what the document says, by a tree.
func wantedEval(code []api.Ins, vars, args []int) (int, api.Errno) {
	if _, e := wantedCheck(code, len(vars), len(args)); e != api.OK {
		return 0, e
	}
	for _, n := range slices.Concat(vars, args) {
		if n < -top || n > top {
			return 0, api.ErrArg
		}
	}
	whole, _ := asTree(code)
	n, ok := whole.comesTo(vars, args)
	if !ok {
		return 0, api.ErrRange
	}
	return int(n.Int64()), api.OK
}

func TestEvalOfAnyCode(t *testing.T) {
	rows := append(numberRows(), []int{1, 2}, nil, []int{0, 0, 0, top + 1})
	i := 0
	manyCodes(func(code []api.Ins) {
		vars, args := rows[i%len(rows)], rows[(i+i/len(rows))%len(rows)]
		i++
		got, e := expr.Eval(code, vars, args)
		if want, errno := wantedEval(code, vars, args); got != want || e != errno {
			t.Fatalf("%v with %v, %v: %d, %v; not %d, %v", code, vars, args, got, e, want, errno)
		}
	})
}

// TestEvalOfManyWaiting: as many numbers wait as can.
func TestEvalOfManyWaiting(t *testing.T) {
	sixteen := make([]int, 16)
	for i := range sixteen {
		sixteen[i] = 1 << i
	}
	if got, e := expr.Eval(constants(sixteen, slices.Repeat([]int{api.Add}, 15)...), nil, nil); got != 1<<16-1 || e != api.OK {
		t.Errorf("%d, %v", got, e)
	}
	choices := slices.Repeat([]int{0}, 20)
	if got, e := expr.Eval(constants(append(choices, 9), slices.Repeat([]int{api.If}, 10)...), nil, nil); got != 9 || e != api.OK {
		t.Errorf("%d, %v", got, e)
	}
	if got, e := expr.Eval(slices.Repeat(constants([]int{1}), 31), nil, nil); got != 0 || e != api.ErrForm {
		t.Errorf("%d, %v", got, e)
	}
}

// ---- P3.3 (Fold)

func TestFold(t *testing.T) {
	a, b := variable(0), argument(0)
	for _, c := range []struct{ code, want []api.Ins }{
		{list(append(constants([]int{1, 2}, api.Add), a), api.Add), []api.Ins{constant(3), a, ins(api.Add)}},
		{constants([]int{5}), constants([]int{5})}, {[]api.Ins{a}, []api.Ins{a}}, {[]api.Ins{b}, []api.Ins{b}},
		{constants([]int{5}, api.Neg), constants([]int{-5})}, {constants([]int{5}, api.Not), constants([]int{0})},
		{constants([]int{0, 8, 9}, api.If), constants([]int{9})}, {constants([]int{2, 8, 9}, api.If), constants([]int{8})},
		{constants([]int{1, 2, 3}, api.Sub, api.Sub), constants([]int{2})}, {sumOfOnes(31), constants([]int{16})},
		{list([]api.Ins{a}, api.Neg, api.Not), list([]api.Ins{a}, api.Neg, api.Not)},

		// All that it takes must be constants, right ahead of it.
		{list([]api.Ins{a, constant(1), constant(2)}, api.Add, api.Add), list([]api.Ins{a, constant(3)}, api.Add)},
		{list([]api.Ins{constant(1), a, constant(2)}, api.Add, api.Add), list([]api.Ins{constant(1), a, constant(2)}, api.Add, api.Add)},
		{list([]api.Ins{a, constant(1)}, api.Add), list([]api.Ins{a, constant(1)}, api.Add)},
		{list([]api.Ins{constant(1), a}, api.Add), list([]api.Ins{constant(1), a}, api.Add)},
		{list([]api.Ins{a, constant(1), ins(api.Add), constant(2)}, api.Add), list([]api.Ins{a, constant(1), ins(api.Add), constant(2)}, api.Add)},
		{list([]api.Ins{constant(1), a, constant(2)}, api.If), list([]api.Ins{constant(1), a, constant(2)}, api.If)},
		{list([]api.Ins{a, constant(1), constant(2)}, api.If), list([]api.Ins{a, constant(1), constant(2)}, api.If)},
		{list([]api.Ins{constant(1), constant(2), a}, api.If), list([]api.Ins{constant(1), constant(2), a}, api.If)},
		{list([]api.Ins{constant(0), a}, api.Mul), list([]api.Ins{constant(0), a}, api.Mul)}, // though it comes to 0
		{list([]api.Ins{a, a}, api.Sub), list([]api.Ins{a, a}, api.Sub)},

		// What is no value stays, and what takes it too.
		{constants([]int{top, 1}, api.Add), constants([]int{top, 1}, api.Add)},
		{constants([]int{1 << 32, 1 << 32}, api.Mul, api.Not), constants([]int{1 << 32, 1 << 32}, api.Mul, api.Not)},
		{list(append(constants([]int{top, 1}, api.Add), constant(1), constant(2)), api.Sub, api.Sub), list(append(constants([]int{top, 1}, api.Add), constant(-1)), api.Sub)},
		{constants([]int{top, 0}, api.Add), constants([]int{top})},

		// What may not be, with whatever variables and arguments.
		{nil, nil}, {constants([]int{1, 2}), constants([]int{1, 2})}, {constants([]int{1, 2, 3}, api.Add), constants([]int{1, 2, 3}, api.Add)},
		{constants([]int{1, 2}, api.Add, api.Add), constants([]int{1, 2}, api.Add, api.Add)}, {constants([]int{1, 2}, api.Add, 0), constants([]int{1, 2}, api.Add, 0)},
		{append(constants([]int{1, 2}, api.Add), ins(api.Neg, 1)), append(constants([]int{1, 2}, api.Add), ins(api.Neg, 1))},
		{constants([]int{top + 1, -1}, api.Add), constants([]int{top + 1, -1}, api.Add)},
		{sumOfOnes(33), sumOfOnes(33)}, {list(sumOfOnes(31), api.Neg), list(sumOfOnes(31), api.Neg)},
		{list(append(constants([]int{1, 2}, api.Add), variable(-1)), api.Add), list(append(constants([]int{1, 2}, api.Add), variable(-1)), api.Add)},
		{list(append(constants([]int{1, 2}, api.Add), argument(math.MaxInt)), api.Add), list(append(constants([]int{1, 2}, api.Add), argument(math.MaxInt)), api.Add)},

		// What may be with ever so many of them.
		{list(append(constants([]int{1, 2}, api.Add), variable(1000)), api.Add), list([]api.Ins{constant(3), variable(1000)}, api.Add)},
		{list(append(constants([]int{1, 2}, api.Add), variable(math.MaxInt-1)), api.Add), list([]api.Ins{constant(3), variable(math.MaxInt - 1)}, api.Add)},
		{list(append(constants([]int{1, 2}, api.Add), argument(math.MaxInt-1)), api.Add), list([]api.Ins{constant(3), argument(math.MaxInt - 1)}, api.Add)},
	} {
		if got := expr.Fold(c.code); !slices.Equal(got, c.want) {
			t.Errorf("%v: %v, not %v", c.code, got, c.want)
		}
	}
}

func TestFoldOfAnyCode(t *testing.T) {
	manyCodes(func(code []api.Ins) {
		want := code
		if _, e := wantedCheck(code, math.MaxInt, math.MaxInt); e == api.OK {
			whole, _ := asTree(code)
			want = whole.folded().code()
		}
		if got := expr.Fold(code); !slices.Equal(got, want) {
			t.Fatalf("%v: %v, not %v", code, got, want)
		}
	})
}

// TestFoldIsNewMemory: whatever is folded, or refused.
func TestFoldIsNewMemory(t *testing.T) {
	for _, code := range [][]api.Ins{aMinusTwoB(), sumOfOnes(9), constants([]int{1}), constants([]int{1, 2}), sumOfOnes(33), {}} {
		room := slices.Concat(code, slices.Repeat([]api.Ins{ins(99)}, 40))
		before := slices.Clone(room)
		given := room[:len(code)]
		got := expr.Fold(given)
		want := slices.Clone(got)
		if !slices.Equal(room, before) {
			t.Errorf("%v: what was handed in is %v", code, room)
		}
		spare := got[:cap(got)]
		for i := range spare {
			spare[i] = ins(77)
		}
		if !slices.Equal(room, before) {
			t.Errorf("%v: what was handed in is kept", code)
		}
		again := expr.Fold(given)
		for i := range room {
			room[i] = ins(55)
		}
		if !slices.Equal(again, want) {
			t.Errorf("%v: what was answered changed", code)
		}
	}
}

func TestNothingHandedInIsChanged(t *testing.T) {
	vars, args := []int{1, 2, 3, 8, 8}, []int{4, 5, 8, 8}
	manyCodes(func(code []api.Ins) {
		room := append(slices.Clone(code), ins(99))
		given := room[:len(code)]
		expr.Check(given, 3, 2)
		expr.Eval(given, vars[:3], args[:2])
		expr.Fold(given)
		expr.Uses(given)
		expr.Depth(given)
		if !slices.Equal(given, code) || room[len(code)] != ins(99) {
			t.Fatalf("%v: %v", code, room)
		}
		if !slices.Equal(vars, []int{1, 2, 3, 8, 8}) || !slices.Equal(args, []int{4, 5, 8, 8}) {
			t.Fatalf("%v: %v, %v", code, vars, args)
		}
	})
}

// ---- P3.4 (Uses, Depth)

func TestUses(t *testing.T) {
	for _, c := range []struct {
		code       []api.Ins
		vars, args []bool
	}{
		{nil, nil, nil}, {constants([]int{0, 1}, api.Add), nil, nil}, {aMinusTwoB(), []bool{true, true}, nil},
		{[]api.Ins{variable(0)}, []bool{true}, nil}, {[]api.Ins{argument(0)}, nil, []bool{true}},
		{[]api.Ins{variable(2)}, []bool{false, false, true}, nil}, {[]api.Ins{argument(3)}, nil, []bool{false, false, false, true}},
		{[]api.Ins{variable(5)}, []bool{false, false, false, false, false, true}, nil},
		{[]api.Ins{variable(3), argument(1), variable(1), variable(3)}, []bool{false, true, false, true}, []bool{false, true}},
		{[]api.Ins{argument(2), argument(0), variable(0)}, []bool{true}, []bool{true, false, true}},

		// Those that a rule cannot have are none; others beside them count.
		{[]api.Ins{variable(6)}, nil, nil}, {[]api.Ins{argument(4)}, nil, nil}, {[]api.Ins{argument(5)}, nil, nil},
		{[]api.Ins{variable(-1), argument(-1), variable(math.MinInt), argument(math.MaxInt), variable(math.MaxInt)}, nil, nil},
		{[]api.Ins{variable(6), variable(1), argument(4), argument(0)}, []bool{false, true}, []bool{true}},

		// Others' numbers, and Ops that are none, name nothing; what may not be is gone through too.
		{[]api.Ins{ins(api.Neg, 3), ins(0, 2), ins(17, 1), constant(4)}, nil, nil},
		{[]api.Ins{ins(api.Add), ins(0), variable(1), ins(api.If)}, []bool{false, true}, nil},
		{append(slices.Repeat([]api.Ins{constant(1)}, 5000), variable(1), argument(1)), []bool{false, true}, []bool{false, true}},
	} {
		vars, args := expr.Uses(c.code)
		if !slices.Equal(vars, c.vars) || !slices.Equal(args, c.args) {
			t.Errorf("%.200v: %v, %v; not %v, %v", c.code, vars, args, c.vars, c.args)
		}
	}
}

func TestUsesOfAnyCode(t *testing.T) {
	of := []api.Ins{ins(api.Add)}
	for n := -1; n < 8; n++ {
		of = append(of, variable(n), argument(n))
	}
	allCodes(3, of, func(code []api.Ins) {
		vars, args := expr.Uses(code)
		for _, c := range []struct {
			got       []bool
			op, limit int
		}{{vars, api.Var, 6}, {args, api.Arg, 4}} {
			greatest := -1
			for n := range c.limit {
				names := slices.Contains(code, ins(c.op, n))
				if names {
					greatest = n
				}
				if got := n < len(c.got) && c.got[n]; got != names {
					t.Fatalf("%v: %d of %d: %v", code, n, c.op, got)
				}
			}
			if len(c.got) != greatest+1 {
				t.Fatalf("%v: %v", code, c.got)
			}
		}
	})
}

// TestUsesSharesNothing: neither between the two lists nor between two answers.
func TestUsesSharesNothing(t *testing.T) {
	code := []api.Ins{variable(2), argument(2)}
	want := []bool{false, false, true}
	vars, args := expr.Uses(code)
	clear(vars[:cap(vars)])
	if !slices.Equal(args, want) {
		t.Errorf("%v", args)
	}
	clear(args[:cap(args)])
	if vars, args := expr.Uses(code); !slices.Equal(vars, want) || !slices.Equal(args, want) {
		t.Errorf("%v, %v", vars, args)
	}
}

func TestDepth(t *testing.T) {
	for _, c := range []struct {
		code []api.Ins
		want int
	}{
		{nil, 0}, {aMinusTwoB(), 3}, {constants([]int{1}), 1}, {[]api.Ins{variable(0)}, 1}, {[]api.Ins{argument(0)}, 1},
		{constants([]int{1}, api.Neg, api.Not, api.Neg), 1}, {sumOfOnes(31), 2}, {constants([]int{1, 2, 3}, api.If), 3},
		{list(append(constants([]int{1, 2, 3}, api.If), constant(4)), api.Add), 3},
		{list(append(constants([]int{1, 2}, api.Add), constant(1), constant(1)), api.Add, api.Add), 3},
		{constants([]int{1, 2, 3, 4}), 4}, {slices.Repeat(constants([]int{1}), 31), 31},

		// Too few numbers: also at the end, and whatever there was ahead of that or comes behind.
		{list(nil, api.Neg), 0}, {list(nil, api.Not), 0}, {constants([]int{1}, api.Add), 0}, {constants([]int{1, 2}, api.If), 0},
		{constants([]int{1, 2, 3}, api.If, api.Or), 0}, {append(constants([]int{1}, api.Add), constants([]int{1, 2, 3})...), 0},
		{append(list(nil, api.Neg), constants([]int{1, 2, 3})...), 0}, {slices.Concat(constants([]int{1, 2, 3}, api.Add, api.Add, api.Add), sumOfOnes(5)), 0},

		// Ops that are none change nothing, and N plays no part; nor does how many there are.
		{list(nil, 0, 17, -1, math.MaxInt, math.MinInt), 0}, {constants([]int{1}, 0, 17, -1), 1},
		{append(constants([]int{1}, 0), constants([]int{2}, 17, api.Add)...), 2},
		{[]api.Ins{constant(math.MaxInt), variable(-1), argument(99), ins(api.Add, 7)}, 3},
		{slices.Repeat(constants([]int{1}), 5000), 5000}, {sumOfOnes(5001), 2}, {slices.Repeat([]api.Ins{ins(0)}, 5000), 0},
		{append(slices.Repeat(constants([]int{1}), 40), slices.Repeat([]api.Ins{ins(api.Add)}, 40)...), 0},
	} {
		if got := expr.Depth(c.code); got != c.want {
			t.Errorf("%.200v: %d, not %d", c.code, got, c.want)
		}
	}
}

// wantedDepth: by the numbers that wait behind each beginning of the code.
func wantedDepth(code []api.Ins) int {
	deepest := 0
	for end := range len(code) + 1 {
		numbers := 0
		for _, one := range code[:end] {
			n := needs(one.Op)
			if n < 0 {
				continue
			}
			if numbers -= n; numbers < 0 {
				return 0
			}
			numbers++
		}
		deepest = max(deepest, numbers)
	}
	return deepest
}

func TestDepthOfAnyCode(t *testing.T) {
	manyCodes(func(code []api.Ins) {
		if got, want := expr.Depth(code), wantedDepth(code); got != want {
			t.Fatalf("%v: %d, not %d", code, got, want)
		}
	})
}

// ---- P3.5 (folded)

func TestFoldedComesToTheSame(t *testing.T) {
	rows := numberRows()
	i, came := 0, 0
	manyCodes(func(code []api.Ins) {
		short := expr.Fold(code)
		if len(short) > len(code) {
			t.Fatalf("%v: %v is longer", code, short)
		}
		vars, args := rows[i%len(rows)], rows[(i+i/len(rows))%len(rows)]
		i++
		want, e := expr.Eval(code, vars, args)
		if e != api.OK {
			return
		}
		came++
		if got, e := expr.Eval(short, vars, args); got != want || e != api.OK {
			t.Fatalf("%v with %v, %v: %d, %v; not %d", short, vars, args, got, e, want)
		}
	})
	if came < 10000 {
		t.Errorf("only %d came to something", came)
	}
}

func TestFoldedOnceMoreStays(t *testing.T) {
	manyCodes(func(code []api.Ins) {
		once := expr.Fold(code)
		if twice := expr.Fold(once); !slices.Equal(twice, once) {
			t.Fatalf("%v: %v, and then %v", code, once, twice)
		}
	})
}
