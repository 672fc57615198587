package infix

import (
	"strconv"
	"strings"

	"surmise/api"
)

// The levels of the grammar, the tightest first: what its rules make, and ahead of them what is a number alone.
const (
	levelNumber = iota
	levelAtom
	levelOne
	levelProduct
	levelSum
	levelComparison
	levelAll
	levelAny
)

// level is the level whose rule makes what an instruction makes of its operands.
func level(op int) int {
	switch op {
	case api.Neg, api.Not:
		return levelOne
	case api.Mul:
		return levelProduct
	case api.Add, api.Sub:
		return levelSum
	case api.Less, api.Most, api.Same:
		return levelComparison
	case api.And:
		return levelAll
	case api.Or:
		return levelAny
	}
	return levelAtom
}

// operands tells how many of them an instruction has.
func operands(op int) int {
	switch op {
	case api.Const, api.Var, api.Arg:
		return 0
	case api.Neg, api.Not:
		return 1
	case api.If:
		return 3
	}
	return 2
}

// piece is an expression's text, and the level whose rule makes it.
type piece struct {
	text  string
	level int
}

// upTo is the text where the grammar asks for a level: if the piece is made above it, with brackets around.
func (p piece) upTo(level int) string {
	if p.level > level {
		return p.bracketed()
	}
	return p.text
}

func (p piece) bracketed() string {
	return "(" + p.text + ")"
}

// putter makes what puts an instruction's piece, with the pieces of its operands in it, into their place at a row's end.
func putter(vars []string) func(row []piece, ins api.Ins) []piece {
	return func(row []piece, ins api.Ins) []piece {
		switch ins.Op {
		case api.Const:
			return append(row, number(ins.N))
		case api.Var:
			return append(row, piece{strings.Clone(vars[ins.N]), levelAtom})
		case api.Arg:
			return append(row, piece{"$" + strconv.Itoa(ins.N), levelAtom})
		}
		first := len(row) - operands(ins.Op)
		return append(row[:first], piece{together(ins.Op, row[first:]), level(ins.Op)})
	}
}

// number is a constant's piece; with a minus it is made by the rule that makes those of Neg.
func number(n int) piece {
	if n < 0 {
		return piece{strconv.Itoa(n), levelOne}
	}
	return piece{strconv.Itoa(n), levelNumber}
}

// together is the text of what an instruction makes of its operands.
func together(op int, l []piece) string {
	switch {
	case called(signs[op]) != 0:
		return signs[op] + "(" + list(l) + ")"
	case op == api.Neg && l[0].level == levelNumber:
		// Without brackets the minus and the number would be one constant.
		return signs[op] + l[0].bracketed()
	case len(l) == 1:
		return signs[op] + l[0].upTo(levelOne)
	}
	own := level(op)
	first := own
	if own == levelComparison {
		// Of all levels with two operands this one alone does not go on behind them.
		first = own - 1
	}
	return l[0].upTo(first) + " " + signs[op] + " " + l[1].upTo(own-1)
}

// list is pieces between brackets, where anything may stand.
func list(l []piece) string {
	texts := make([]string, len(l))
	for i, p := range l {
		texts[i] = p.text
	}
	return strings.Join(texts, ", ")
}
