package infix

import (
	"slices"
	"strconv"

	"surmise/api"
)

// reader goes through a text word by word. Its methods that read tell whether all went well; if not, at and e are where and what is wrong, and nobody reads on.
type reader struct {
	text string
	vars []string
	args int
	at   int    // where the word begins
	word string // the word that is read next; empty at the text's end, and where no word begins
	code []api.Ins
	e    api.Errno
}

// advance goes to the next word.
func (r *reader) advance() {
	r.at += len(r.word)
	for r.at < len(r.text) && r.text[r.at] == ' ' {
		r.at++
	}
	r.word = wordAt(r.text, r.at)
}

func (r *reader) fail(e api.Errno) bool {
	r.e = e
	return false
}

// put puts an instruction behind the others.
func (r *reader) put(op, n int) {
	r.code = append(r.code, api.Ins{Op: op, N: n})
}

// end tells whether the text ends here.
func (r *reader) end() bool {
	return r.at == len(r.text) || r.fail(api.ErrForm)
}

// pass reads the one word that can stand here.
func (r *reader) pass(word string) bool {
	if r.word != word {
		return r.fail(api.ErrForm)
	}
	r.advance()
	return true
}

// The levels of the grammar, the loosest first. Each hands the next one on, as what reads its operands.

// any = all { "|" all }
func (r *reader) any() bool { return r.many(r.all, api.Or) }

// all = cmp { "&" cmp }
func (r *reader) all() bool { return r.many(r.comparison, api.And) }

// cmp = sum [ ("<"|"<="|"=") sum ]
func (r *reader) comparison() bool { return r.once(r.sum, api.Less, api.Most, api.Same) }

// sum = prod { ("+"|"-") prod }
func (r *reader) sum() bool { return r.many(r.product, api.Add, api.Sub) }

// prod = one { "*" one }
func (r *reader) product() bool { return r.many(r.one, api.Mul) }

// many reads an operand, and others behind it as long as a sign of one of these instructions stands ahead of the next one.
func (r *reader) many(operand func() bool, ops ...int) bool {
	if !operand() {
		return false
	}
	for op := r.among(ops); op != 0; op = r.among(ops) {
		if !r.second(operand, op) {
			return false
		}
	}
	return true
}

// once reads an operand, and one more, if a sign of one of these instructions stands ahead of it.
func (r *reader) once(operand func() bool, ops ...int) bool {
	if !operand() {
		return false
	}
	op := r.among(ops)
	return op == 0 || r.second(operand, op)
}

// among is the Op, out of these, whose sign the word is, and 0, if it is none of them.
func (r *reader) among(ops []int) int {
	i := slices.IndexFunc(ops, func(op int) bool { return r.word == signs[op] })
	if i < 0 {
		return 0
	}
	return ops[i]
}

// second reads a sign and the operand behind it.
func (r *reader) second(operand func() bool, op int) bool {
	r.advance()
	if !operand() {
		return false
	}
	r.put(op, 0)
	return true
}

// one = "-" one | "!" one | "-" number | atom
func (r *reader) one() bool {
	switch r.word {
	case signs[api.Not]:
		return r.second(r.one, api.Not)
	case signs[api.Neg]:
		if behind := wordAt(r.text, r.at+1); behind != "" && isDigit(behind[0]) {
			r.word += behind
			return r.constant()
		}
		return r.second(r.one, api.Neg)
	}
	return r.atom()
}

// atom = number | name | "$" digit | "(" any ")" | "min" "(" any "," any ")" | "max" "(" any "," any ")" | "if" "(" any "," any "," any ")"
func (r *reader) atom() bool {
	switch {
	case r.word == "(":
		r.advance()
		return r.any() && r.pass(")")
	case r.word == "":
		return r.fail(api.ErrForm)
	case isDigit(r.word[0]):
		return r.constant()
	case r.word[0] == '$':
		return r.argument()
	case Name(r.word):
		return r.variable()
	}
	if op := called(r.word); op != 0 {
		return r.call(op)
	}
	return r.fail(api.ErrForm)
}

// constant reads a number, which may have a minus ahead.
func (r *reader) constant() bool {
	n, err := strconv.Atoi(r.word)
	if err != nil || n < -api.MaxValue || n > api.MaxValue {
		return r.fail(api.ErrRange)
	}
	r.put(api.Const, n)
	r.advance()
	return true
}

func (r *reader) argument() bool {
	n := int(r.word[1] - '0')
	if n >= r.args {
		return r.fail(api.ErrRange)
	}
	r.put(api.Arg, n)
	r.advance()
	return true
}

func (r *reader) variable() bool {
	n := slices.Index(r.vars, r.word)
	if n < 0 {
		return r.fail(api.ErrNone)
	}
	r.put(api.Var, n)
	r.advance()
	return true
}

// call reads the name of an instruction, and its operands in brackets.
func (r *reader) call(op int) bool {
	r.advance()
	ahead := "("
	for range operands(op) {
		if !r.pass(ahead) || !r.any() {
			return false
		}
		ahead = ","
	}
	if !r.pass(")") {
		return false
	}
	r.put(op, 0)
	return true
}
