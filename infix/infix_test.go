package infix_test

import (
	"math"
	"math/rand"
	"regexp"
	"slices"
	"strconv"
	"strings"
	"testing"

	"surmise/api"
	"surmise/expr"
	"surmise/infix"
)

const top = api.MaxValue

// names are the variables of most tests, which have 2 arguments; the last one is as long as a name can be.
func names() []string {
	return []string{"a", "b", "c", "d4_", "abcdefghijklmnopqrstuvwx"}
}

// written: the words in which these tests write instructions, by their Ops.
func written() []string {
	return []string{api.Neg: "neg", api.Not: "not", api.Add: "+", api.Sub: "-", api.Mul: "*", api.Min: "min", api.Max: "max", api.Less: "<", api.Most: "<=", api.Same: "=", api.And: "&", api.Or: "|", api.If: "if"}
}

// code: instructions, one behind the other, out of words like `a b 2 * -`.
func code(text string) []api.Ins {
	var l []api.Ins
	for _, word := range strings.Fields(text) {
		n, err := strconv.Atoi(word)
		switch v, op := slices.Index(names(), word), slices.Index(written(), word); {
		case err == nil:
			l = append(l, api.Ins{Op: api.Const, N: n})
		case v >= 0:
			l = append(l, api.Ins{Op: api.Var, N: v})
		case op >= 0:
			l = append(l, api.Ins{Op: op})
		case word[0] == '$':
			n, _ = strconv.Atoi(word[1:])
			l = append(l, api.Ins{Op: api.Arg, N: n})
		default:
			panic(word)
		}
	}
	return l
}

// ---- Another way to read a text: by two stacks, without the grammar's rules.

// open is what was begun and is not done: a bracket, or a call with some operands to come, and the instructions that wait in it.
type open struct {
	call, commas int
	compared     bool
	waiting      []int
}

// wait lets an instruction wait, behind those that bind as tightly and so are done.
func (o *open) wait(op int, done func(int)) {
	for len(o.waiting) > 0 && tightness(o.waiting[len(o.waiting)-1]) >= tightness(op) {
		done(o.waiting[len(o.waiting)-1])
		o.waiting = o.waiting[:len(o.waiting)-1]
	}
	o.waiting = append(o.waiting, op)
}

func (o *open) finish(done func(int)) {
	slices.Reverse(o.waiting)
	for _, op := range o.waiting {
		done(op)
	}
	o.waiting = nil
}

func tightness(op int) int {
	switch op {
	case api.Or:
		return 1
	case api.And:
		return 2
	case api.Less, api.Most, api.Same:
		return 3
	case api.Add, api.Sub:
		return 4
	case api.Mul:
		return 5
	}
	return 6
}

func between(sign string) int {
	switch sign {
	case "|", "&", "<", "<=", "=", "+", "-", "*":
		return slices.Index(written(), sign)
	}
	return 0
}

var (
	word     = regexp.MustCompile(`^(?:[a-z][a-z0-9_]{0,23}|[0-9]+|\$[0-9]|<=|[-+*!&|<=(),])`)
	negative = regexp.MustCompile(`^-[0-9]+`)
	call     = regexp.MustCompile(`^(?:min|max|if)$`)
)

// stacks reads a text; what it wants next is an operand, a bracket that begins a call's operands, or a sign behind an operand.
type stacks struct {
	opened            []open
	code              []api.Ins
	behind, beginning bool
}

func (s *stacks) last() *open    { return &s.opened[len(s.opened)-1] }
func (s *stacks) done(op int)    { s.code = append(s.code, api.Ins{Op: op}) }
func (s *stacks) put(op, n int)  { s.code, s.behind = append(s.code, api.Ins{Op: op, N: n}), true }
func (s *stacks) begin(o open)   { s.opened = append(s.opened, o) }
func (s *stacks) complete() bool { return s.behind && len(s.opened) == 1 }

// step reads a word: its error, if it has one.
func (s *stacks) step(w string, vars []string, args int) api.Errno {
	switch {
	case s.beginning && w != "(":
		return api.ErrForm
	case s.beginning:
		s.beginning = false
		return api.OK
	case s.behind:
		return s.sign(w)
	}
	switch {
	case w == "(":
		s.begin(open{})
	case w == "!":
		s.last().waiting = append(s.last().waiting, api.Not)
	case w == "-":
		s.last().waiting = append(s.last().waiting, api.Neg)
	case call.MatchString(w):
		op := slices.Index(written(), w)
		s.begin(open{call: op, commas: map[int]int{api.Min: 1, api.Max: 1, api.If: 2}[op]})
		s.beginning = true
	case w[0] == '$':
		if int(w[1]-'0') >= args {
			return api.ErrRange
		}
		s.put(api.Arg, int(w[1]-'0'))
	case negative.MatchString(w) || '0' <= w[0] && w[0] <= '9':
		n, err := strconv.ParseInt(w, 10, 64)
		if err != nil || n < -top || n > top {
			return api.ErrRange
		}
		s.put(api.Const, int(n))
	case 'a' <= w[0] && w[0] <= 'z':
		n := slices.Index(vars, w)
		if n < 0 {
			return api.ErrNone
		}
		s.put(api.Var, n)
	default:
		return api.ErrForm
	}
	return api.OK
}

// sign reads a word behind an operand.
func (s *stacks) sign(w string) api.Errno {
	o, op := s.last(), between(w)
	compares := tightness(op) == tightness(api.Less)
	switch {
	case compares && o.compared:
		return api.ErrForm
	case op != 0:
		o.compared = compares || o.compared && op != api.And && op != api.Or
		o.wait(op, s.done)
		s.behind = false
	case w == "," && o.commas > 0:
		o.finish(s.done)
		o.commas--
		o.compared = false
		s.behind = false
	case w == ")" && o.commas == 0 && len(s.opened) > 1:
		o.finish(s.done)
		if o.call != 0 {
			s.done(o.call)
		}
		s.opened = s.opened[:len(s.opened)-1]
	default:
		return api.ErrForm
	}
	return api.OK
}

// wantedParse: what the document says.
func wantedParse(text string, vars []string, args int) ([]api.Ins, int, api.Errno) {
	if len(text) > 2048 {
		return nil, 0, api.ErrBig
	}
	s := stacks{opened: []open{{}}}
	for at := 0; at < len(text); {
		w := word.FindString(text[at:])
		if n := negative.FindString(text[at:]); n != "" && !s.behind && !s.beginning {
			w = n
		}
		switch {
		case text[at] == ' ':
			at++
			continue
		case w == "":
			return nil, at, api.ErrForm
		}
		if e := s.step(w, vars, args); e != api.OK {
			return nil, at, e
		}
		at += len(w)
	}
	if !s.complete() {
		return nil, len(text), api.ErrForm
	}
	s.last().finish(s.done)
	if len(s.code) > 31 {
		return nil, len(text), api.ErrBig
	}
	return s.code, 0, api.OK
}

func checkParse(t *testing.T, text string, vars []string, args int) bool {
	t.Helper()
	got, at, e := infix.Parse(text, vars, args)
	want, place, errno := wantedParse(text, vars, args)
	if !slices.Equal(got, want) || at != place || e != errno {
		t.Fatalf("%q with %q, %d: %v, %d, %v; not %v, %d, %v", text, vars, args, got, at, e, want, place, errno)
	}
	return e == api.OK
}

// ---- Codes and texts of all sorts

// anyNumber: an instruction that puts one of the variables, arguments and values.
func anyNumber(source *rand.Rand) api.Ins {
	values := []int{0, 1, 5, 12, top, -1, -5, -top}
	switch source.Intn(4) {
	case 0:
		return api.Ins{Op: api.Arg, N: source.Intn(2)}
	case 1:
		return api.Ins{Op: api.Const, N: values[source.Intn(len(values))]}
	}
	return api.Ins{Op: api.Var, N: source.Intn(len(names()))}
}

// anyCode: one that may be, with at most so many instructions.
func anyCode(source *rand.Rand, size int) []api.Ins {
	own := func(op int, l ...[]api.Ins) []api.Ins { return append(slices.Concat(l...), api.Ins{Op: op}) }
	switch {
	case size >= 4 && source.Intn(6) == 0:
		first := 1 + source.Intn(size-3)
		second := 1 + source.Intn(size-2-first)
		return own(api.If, anyCode(source, first), anyCode(source, second), anyCode(source, size-1-first-second))
	case size >= 3 && source.Intn(5) > 0:
		first := 1 + source.Intn(size-2)
		return own(api.Add+source.Intn(10), anyCode(source, first), anyCode(source, size-1-first))
	case size >= 2:
		return own(api.Neg+source.Intn(2), anyCode(source, size-1))
	}
	return []api.Ins{anyNumber(source)}
}

// manyCodes visits codes that may be with the names and 2 arguments: all short ones of some instructions, and others.
func manyCodes(visit func([]api.Ins)) {
	var grow func(l []api.Ins, of []api.Ins, most int)
	grow = func(l []api.Ins, of []api.Ins, most int) {
		if _, e := expr.Check(l, len(names()), 2); e == api.OK {
			visit(slices.Clone(l))
		}
		if len(l) == most || expr.Depth(l) == 0 && len(l) > 0 {
			return
		}
		for _, one := range of {
			grow(append(l[:len(l):len(l)], one), of, most)
		}
	}
	grow(nil, []api.Ins{{Op: api.Const, N: 5}, {Op: api.Var}, {Op: api.Neg}, {Op: api.Sub}, {Op: api.Mul}, {Op: api.Less}}, 7)
	each := code("7 -7 b $1")
	for op := api.Neg; op <= api.If; op++ {
		each = append(each, api.Ins{Op: op})
	}
	grow(nil, each, 5)
	source := rand.New(rand.NewSource(4))
	for range 20000 {
		visit(anyCode(source, 1+source.Intn(31)))
	}
}

// pieces are parts of texts: words, and bytes that begin none.
func pieces() []string {
	l := []string{"a", "b", "e", "d4_", "abcdefghijklmnopqrstuvwx", "abcdefghijklmnopqrstuvwxy", "min", "max", "if", "mins", "5", "007", "1099511627776", "1099511627777"}
	l = append(l, "$0", "$1", "$2", "$9", "$", "_", "A", "\t", "\x00", "é", "?", " ", "  ")
	return append(l, "+", "-", "*", "!", "&", "|", "<", "<=", "=", "(", ")", ",", "-5", "- 5", "min(", "if(")
}

// spoilt changes a text at some places.
func spoilt(source *rand.Rand, text string) string {
	for range source.Intn(3) {
		at := source.Intn(len(text) + 1)
		end := min(len(text), at+source.Intn(3))
		text = text[:at] + pieces()[source.Intn(len(pieces()))] + text[end:]
	}
	return text
}

// loose puts blanks and brackets more than must be into a text that was shown.
func loose(source *rand.Rand, text string) string {
	var l []string
	for _, w := range wordsOf(text) {
		if l = append(l, w); source.Intn(3) == 0 {
			l = append(l, strings.Repeat(" ", 1+source.Intn(2)))
		}
		if last := w[len(w)-1]; source.Intn(4) == 0 && last != ')' && (isOperand(w) || w[0] == '-' && len(w) > 1) {
			l[len(l)-1] = "(" + w + ")"
		}
	}
	return strings.Join(l, "")
}

// manyTexts visits texts that are expressions, and that are nearly ones.
func manyTexts(visit func(string)) {
	source := rand.New(rand.NewSource(5))
	for range 30000 {
		text, e := infix.Show(anyCode(source, 1+source.Intn(12)), names(), 2)
		if e != api.OK {
			panic(e)
		}
		text = loose(source, text)
		visit(text)
		visit(spoilt(source, text))
	}
	for range 30000 {
		text := ""
		for range source.Intn(12) {
			text += pieces()[source.Intn(len(pieces()))]
		}
		visit(text)
	}
}

// ---- P4.1 (Name)

func TestName(t *testing.T) {
	long := strings.Repeat("a", 24)
	for _, s := range []string{
		"a", "z", "m", "az", "a1", "a_", "z9", "a0_9z", "a__", "mi", "mini", "min_", "min1", "amin", "ma", "maxx", "max_", "i", "ifx", "if_", "if0", "fi",
		"m_in", long, long[:23] + "_", long[:23] + "9", "min" + long[:21],
	} {
		if !infix.Name(s) {
			t.Errorf("%q is none", s)
		}
	}
	for _, s := range []string{
		"", "min", "max", "if", "A", "aB", "Min", "0", "0a", "9", "_", "_a", "a ", " a", " ", "a b", "a-b", "a.b", "a/b", "$0", "-", "<=", "a\n", "a\x00", "é", "aé",
		long + "a", long + "_", long + " ", long + long, "min" + long, strings.Repeat("a", 5000), "a(", "(a)",
	} {
		if infix.Name(s) {
			t.Errorf("%q is one", s)
		}
	}
}

// TestNameOfEachByte: alone, and behind another one.
func TestNameOfEachByte(t *testing.T) {
	const letters = "abcdefghijklmnopqrstuvwxyz"
	for i := range 256 {
		b := string([]byte{byte(i)})
		if infix.Name(b) != strings.Contains(letters, b) {
			t.Errorf("%q", b)
		}
		for j := range 256 {
			two := b + string([]byte{byte(j)})
			if infix.Name(two) != (strings.Contains(letters, b) && strings.Contains(letters+"0123456789_", two[1:]) && two != "if") {
				t.Errorf("%q", two)
			}
		}
		for _, n := range []int{22, 23} {
			if s := strings.Repeat("x", n) + b; infix.Name(s) != strings.Contains(letters+"0123456789_", b) {
				t.Errorf("%q", s)
			}
		}
	}
}

// ---- P4.2 (Parse)

func TestParse(t *testing.T) {
	for _, c := range []struct{ text, want string }{
		{"a - b * 2", "a b 2 * -"}, {"-(5)", "5 neg"}, {"-5", "-5"},
		{"a", "a"}, {"b", "b"}, {"d4_", "d4_"}, {"abcdefghijklmnopqrstuvwx", "abcdefghijklmnopqrstuvwx"}, {"$0", "$0"}, {"$1", "$1"},

		// Numbers.
		{"0", "0"}, {"7", "7"}, {"007", "7"}, {"1099511627776", "1099511627776"}, {"0000000000000000000000000000001099511627776", "1099511627776"},
		{strings.Repeat("0", 2048), "0"}, {"-0", "0"}, {"-007", "-7"}, {"-1099511627776", "-1099511627776"}, {"-" + strings.Repeat("0", 2046) + "1", "-1"},

		// A minus, and what its next byte makes of it.
		{"- 5", "5 neg"}, {"--5", "-5 neg"}, {"---5", "-5 neg neg"}, {"- -5", "-5 neg"}, {"-a", "a neg"}, {"--a", "a neg neg"}, {"-$0", "$0 neg"}, {"-0", "0"},
		{"a-5", "a 5 -"}, {"a -5", "a 5 -"}, {"a- 5", "a 5 -"}, {"a--5", "a -5 -"}, {"a - -5", "a -5 -"}, {"a - - 5", "a 5 neg -"}, {"a---5", "a -5 neg -"},
		{"5-5", "5 5 -"}, {"$0-5", "$0 5 -"}, {"(a)-5", "a 5 -"}, {"(-5)", "-5"}, {"min(-5,-6)", "-5 -6 min"}, {"a*-5", "a -5 *"}, {"-5*a", "-5 a *"}, {"-5-5", "-5 5 -"},
		{"a<-5", "a -5 <"}, {"a=-5", "a -5 ="}, {"a&-5|-6", "a -5 & -6 |"}, {"!-5", "-5 not"}, {"-!5", "5 not neg"}, {"-(-5)", "-5 neg"}, {"-min(a,b)", "a b min neg"},

		// Each sign, and each instruction that is called.
		{"a+b", "a b +"}, {"a-b", "a b -"}, {"a*b", "a b *"}, {"a<b", "a b <"}, {"a<=b", "a b <="}, {"a=b", "a b ="}, {"a&b", "a b &"}, {"a|b", "a b |"},
		{"!a", "a not"}, {"!!a", "a not not"}, {"min(a,b)", "a b min"}, {"max(a,b)", "a b max"}, {"if(a,b,c)", "a b c if"},
		{"min (a | b, min(b, c) < a)", "a b | b c min a < min"}, {"if(if(a,b,c),max(a,b),(c))", "a b c if a b max c if"},

		// What binds more tightly, and what is done first of what binds alike.
		{"a-b-c", "a b - c -"}, {"a-b+c", "a b - c +"}, {"a+b-c", "a b + c -"}, {"a*b*c", "a b * c *"}, {"a&b&c", "a b & c &"}, {"a|b|c", "a b | c |"},
		{"a-(b-c)", "a b c - -"}, {"a*(b*c)", "a b c * *"}, {"a|(b|c)", "a b c | |"}, {"(a<b)<c", "a b < c <"}, {"a<(b<c)", "a b c < <"}, {"(a=b)=(b=c)", "a b = b c = ="},
		{"a+b*c", "a b c * +"}, {"a*b+c", "a b * c +"}, {"(a+b)*c", "a b + c *"}, {"-a*b", "a neg b *"}, {"-(a*b)", "a b * neg"}, {"!a+b", "a not b +"}, {"!(a+b)", "a b + not"},
		{"a<b+c", "a b c + <"}, {"a+b<c", "a b + c <"}, {"a<b&b<c", "a b < b c < &"}, {"a<b|b<=c", "a b < b c <= |"}, {"a|b&c", "a b c & |"}, {"a&b|c", "a b & c |"}, {"!a<b", "a not b <"},
		{"a = b & b = c | a < c & !b", "a b = b c = & a c < b not & |"},

		// Blanks and brackets.
		{"  a  ", "a"}, {"a+ b", "a b +"}, {"a +b", "a b +"}, {"((a))", "a"}, {"( ( a ) + ( b ) )", "a b +"}, {"min ( a , b )", "a b min"}, {"! a", "a not"}, {"a  <=  b", "a b <="},
		{strings.Repeat("(", 1023) + "a" + strings.Repeat(")", 1023), "a"}, {"a" + strings.Repeat(" ", 2047), "a"},

		// As many instructions as may be.
		{strings.Repeat("!", 30) + "a", "a" + strings.Repeat(" not", 30)}, {"a" + strings.Repeat("+b", 15), "a" + strings.Repeat(" b +", 15)},
		{strings.Repeat("if(a,b,", 10) + "c" + strings.Repeat(")", 10), strings.Repeat("a b ", 10) + "c" + strings.Repeat(" if", 10)},
	} {
		got, at, e := infix.Parse(c.text, names(), 2)
		if !slices.Equal(got, code(c.want)) || at != 0 || e != api.OK {
			t.Errorf("%.200q: %v, %d, %v; not %v", c.text, got, at, e, code(c.want))
		}
	}
}

func TestParseTellsWhatIsWrong(t *testing.T) {
	long := strings.Repeat("x", 25)
	for _, c := range []struct {
		text string
		at   int
		e    api.Errno
	}{
		// Too many bytes, whatever they are.
		{strings.Repeat(" ", 2048) + "a", 0, api.ErrBig}, {strings.Repeat("?", 2049), 0, api.ErrBig}, {strings.Repeat("0", 2049), 0, api.ErrBig}, {strings.Repeat("?", 2048), 0, api.ErrForm},

		// A byte that begins no word.
		{"?", 0, api.ErrForm}, {"a ?", 2, api.ErrForm}, {"a + ?", 4, api.ErrForm}, {"$", 0, api.ErrForm}, {"a + $", 4, api.ErrForm}, {"a + $a", 4, api.ErrForm}, {"$ 0", 0, api.ErrForm},
		{"_a", 0, api.ErrForm}, {"A", 0, api.ErrForm}, {"aB", 1, api.ErrForm}, {"a\t", 1, api.ErrForm}, {"a\n", 1, api.ErrForm}, {"a\x00", 1, api.ErrForm}, {"é", 0, api.ErrForm},
		{"a > b", 2, api.ErrForm}, {"a / b", 2, api.ErrForm}, {"5.5", 1, api.ErrForm}, {"a # b", 2, api.ErrForm}, {"[a]", 0, api.ErrForm},

		// A word that cannot stand there.
		{"a < b < c", 6, api.ErrForm}, {"a < b <= c", 6, api.ErrForm}, {"a = b = c", 6, api.ErrForm}, {"a < b + c = a", 10, api.ErrForm}, {"(a < b < c)", 7, api.ErrForm},
		{"a b", 2, api.ErrForm}, {"a 5", 2, api.ErrForm}, {"5a", 1, api.ErrForm}, {"5 5", 2, api.ErrForm}, {"$00", 2, api.ErrForm}, {"$0a", 2, api.ErrForm}, {"a $0", 2, api.ErrForm}, {"a(b)", 1, api.ErrForm},
		{"a ! b", 2, api.ErrForm}, {"a (", 2, api.ErrForm}, {"a min(a,b)", 2, api.ErrForm}, {"(a) b", 4, api.ErrForm}, {"+a", 0, api.ErrForm}, {"*", 0, api.ErrForm}, {"a * + b", 4, api.ErrForm},
		{"a & | b", 4, api.ErrForm}, {"a < = b", 4, api.ErrForm}, {"a <== b", 4, api.ErrForm}, {"a =< b", 3, api.ErrForm}, {"a & & b", 4, api.ErrForm}, {"a && b", 3, api.ErrForm},
		{")", 0, api.ErrForm}, {"()", 1, api.ErrForm}, {"(a))", 3, api.ErrForm}, {"a)", 1, api.ErrForm}, {"(a,b)", 2, api.ErrForm}, {",", 0, api.ErrForm}, {"a,b", 1, api.ErrForm},
		{"min a", 4, api.ErrForm}, {"min + a", 4, api.ErrForm}, {"min()", 4, api.ErrForm}, {"min(a)", 5, api.ErrForm}, {"min(a,)", 6, api.ErrForm}, {"min(,a)", 4, api.ErrForm}, {"min(a,b,c)", 7, api.ErrForm},
		{"max(a b)", 6, api.ErrForm}, {"max(a)", 5, api.ErrForm}, {"max(a,b,c)", 7, api.ErrForm}, {"if(a,b)", 6, api.ErrForm}, {"if(a)", 4, api.ErrForm}, {"if(a,b,c,d4_)", 8, api.ErrForm}, {"if((a,b),c,a)", 5, api.ErrForm},
		{"if", 2, api.ErrForm}, {"a if", 2, api.ErrForm}, {"min)", 3, api.ErrForm}, {"min min(a,b)", 4, api.ErrForm}, {"min-5", 3, api.ErrForm}, {"(min)", 4, api.ErrForm},

		// The text's end.
		{"", 0, api.ErrForm}, {"   ", 3, api.ErrForm}, {"a +", 3, api.ErrForm}, {"a + ", 4, api.ErrForm}, {"-", 1, api.ErrForm}, {"!", 1, api.ErrForm}, {"a <= ", 5, api.ErrForm}, {"(", 1, api.ErrForm},
		{"(a", 2, api.ErrForm}, {"(a  ", 4, api.ErrForm}, {"((a)", 4, api.ErrForm}, {"min", 3, api.ErrForm}, {"max ", 4, api.ErrForm}, {"if(", 3, api.ErrForm}, {"min(a", 5, api.ErrForm}, {"min(a,", 6, api.ErrForm},
		{"min(a,b", 7, api.ErrForm}, {"if(a,b,c", 8, api.ErrForm}, {strings.Repeat("(", 2048), 2048, api.ErrForm}, {strings.Repeat("-", 2048), 2048, api.ErrForm}, {strings.Repeat("min(", 512), 2048, api.ErrForm},

		// Names that are no variable; a name is at most 24 bytes of a longer row.
		{"e", 0, api.ErrNone}, {"a + e", 4, api.ErrNone}, {"ab", 0, api.ErrNone}, {"minn", 0, api.ErrNone}, {"iff(a,b,c)", 0, api.ErrNone}, {"-e", 1, api.ErrNone}, {"min(a, e)", 7, api.ErrNone}, {"mi", 0, api.ErrNone},
		{long, 0, api.ErrNone}, {"a + " + long, 4, api.ErrNone}, {"abcdefghijklmnopqrstuvwxy", 24, api.ErrForm}, {"abcdefghijklmnopqrstuvwx_", 24, api.ErrForm}, {"abcdefghijklmnopqrstuvwx5", 24, api.ErrForm},

		// Numbers that are too great, arguments that there are not.
		{"1099511627777", 0, api.ErrRange}, {"a + 1099511627777", 4, api.ErrRange}, {"-1099511627777", 0, api.ErrRange}, {"a - 1099511627777", 4, api.ErrRange}, {"a -1099511627777", 3, api.ErrRange},
		{"a--1099511627777", 2, api.ErrRange}, {"- 1099511627777", 2, api.ErrRange}, {"--1099511627777", 1, api.ErrRange}, {"(-1099511627777)", 1, api.ErrRange}, {"18446744073709551616", 0, api.ErrRange},
		{"9223372036854775807", 0, api.ErrRange}, {"-9223372036854775808", 0, api.ErrRange}, {"18446744073709551621", 0, api.ErrRange}, {strings.Repeat("9", 2048), 0, api.ErrRange}, {"-" + strings.Repeat("9", 2047), 0, api.ErrRange},
		{"$2", 0, api.ErrRange}, {"a + $9", 4, api.ErrRange}, {"-$2", 1, api.ErrRange}, {"$2 +", 0, api.ErrRange},

		// The first in the text; at one place the first of the errors.
		{"e + ?", 0, api.ErrNone}, {"? + e", 0, api.ErrForm}, {"e e", 0, api.ErrNone}, {"a e", 2, api.ErrForm}, {"a 1099511627777", 2, api.ErrForm}, {"a $2", 2, api.ErrForm}, {"1099511627777 e", 0, api.ErrRange},
		{"e + $2", 0, api.ErrNone}, {"$2 + e", 0, api.ErrRange}, {"-1099511627777 ?", 0, api.ErrRange}, {"$2 $3", 0, api.ErrRange}, {"min(e", 4, api.ErrNone}, {"min e", 4, api.ErrForm}, {"if(a, $2, e", 6, api.ErrRange},
		{"e + a < b < c", 0, api.ErrNone}, {"a < b < e", 6, api.ErrForm}, {"(e", 1, api.ErrNone},

		// Too many instructions, if nothing else is wrong.
		{strings.Repeat("!", 31) + "a", 32, api.ErrBig}, {"a" + strings.Repeat("+b", 16), 33, api.ErrBig}, {"a" + strings.Repeat("+b", 16) + "  ", 35, api.ErrBig}, {strings.Repeat("-", 2047) + "a", 2048, api.ErrBig},
		{"-" + strings.Repeat("-", 30) + "5", 0, api.OK}, {"5" + strings.Repeat("+-5", 16), 49, api.ErrBig}, {strings.Repeat("if(a,b,", 11) + "c" + strings.Repeat(")", 11), 89, api.ErrBig},
		{"a" + strings.Repeat("+b", 16) + "+e", 34, api.ErrNone}, {"a" + strings.Repeat("+b", 16) + "+$2", 34, api.ErrRange}, {"a" + strings.Repeat("+b", 16) + "+", 34, api.ErrForm}, {"a" + strings.Repeat("+b", 16) + "?", 33, api.ErrForm},
	} {
		got, at, e := infix.Parse(c.text, names(), 2)
		if at != c.at || e != c.e || e != api.OK && got != nil {
			t.Errorf("%.200q: %v, %d, %v; not %d, %v", c.text, got, at, e, c.at, c.e)
		}
	}
}

// TestParseWithVariablesAndArguments: as many, and of such names, as there may be.
func TestParseWithVariablesAndArguments(t *testing.T) {
	many := make([]string, 5000)
	for i := range many {
		many[i] = "v" + strconv.Itoa(i)
	}
	ins := func(op, n int) []api.Ins { return []api.Ins{{Op: op, N: n}} }
	for _, c := range []struct {
		text string
		vars []string
		args int
		want []api.Ins
		at   int
		e    api.Errno
	}{
		{"b", []string{"a", "b", "c", "b"}, 0, ins(api.Var, 1), 0, api.OK}, // the first of that name
		{"v4999", many, 0, ins(api.Var, 4999), 0, api.OK}, {"v5000", many, 0, nil, 0, api.ErrNone},
		{"a", nil, 0, nil, 0, api.ErrNone}, {"a", []string{"aa", "A", " a", ""}, 0, nil, 0, api.ErrNone},
		{"", []string{""}, 0, nil, 0, api.ErrForm}, {"A", []string{"A"}, 0, nil, 0, api.ErrForm}, {"min", []string{"min"}, 0, nil, 3, api.ErrForm}, {"if", []string{"if"}, 0, nil, 2, api.ErrForm},
		{"5", []string{"5"}, 0, ins(api.Const, 5), 0, api.OK}, {"$0", []string{"$0"}, 0, nil, 0, api.ErrRange}, {"a b", []string{"a b"}, 0, nil, 0, api.ErrNone},
		{"xxxxxxxxxxxxxxxxxxxxxxxxx", []string{strings.Repeat("x", 25)}, 0, nil, 0, api.ErrNone}, {"xxxxxxxxxxxxxxxxxxxxxxxx", []string{strings.Repeat("x", 24)}, 0, ins(api.Var, 0), 0, api.OK},

		{"$0", nil, 0, nil, 0, api.ErrRange}, {"$0", nil, 1, ins(api.Arg, 0), 0, api.OK}, {"$1", nil, 1, nil, 0, api.ErrRange}, {"$9", nil, 10, ins(api.Arg, 9), 0, api.OK}, {"$9", nil, 9, nil, 0, api.ErrRange},
		{"$9", nil, math.MaxInt, ins(api.Arg, 9), 0, api.OK}, {"$10", nil, 20, nil, 2, api.ErrForm}, {"$0", nil, -1, nil, 0, api.ErrRange}, {"$0", nil, math.MinInt, nil, 0, api.ErrRange},
		{"5", nil, -1, ins(api.Const, 5), 0, api.OK}, {"a", []string{"a"}, math.MinInt, ins(api.Var, 0), 0, api.OK},
	} {
		got, at, e := infix.Parse(c.text, c.vars, c.args)
		if !slices.Equal(got, c.want) || at != c.at || e != c.e {
			t.Errorf("%q with %d: %v, %d, %v; not %v, %d, %v", c.text, c.args, got, at, e, c.want, c.at, c.e)
		}
		checkParse(t, c.text, c.vars, c.args)
	}
}

// TestParseOfAllShortTexts: each row of few pieces, with and without blanks between.
func TestParseOfAllShortTexts(t *testing.T) {
	well := 0
	var grow func(l []string, of []string, most int)
	grow = func(l []string, of []string, most int) {
		for _, blank := range []string{"", " "} {
			if checkParse(t, strings.Join(l, blank), names(), 2) {
				well++
			}
		}
		if len(l) < most {
			for _, one := range of {
				grow(append(l[:len(l):len(l)], one), of, most)
			}
		}
	}
	grow(nil, pieces(), 3)
	grow(nil, []string{"a", "5", "-", "*", "<", "(", ")", "!"}, 6)
	grow(nil, []string{"a", "min(", "if(", ",", ")", "|", "="}, 6)
	if well < 3000 {
		t.Errorf("only %d were expressions", well)
	}
}

func TestParseOfManyTexts(t *testing.T) {
	well := 0
	manyTexts(func(text string) {
		if checkParse(t, text, names(), 2) {
			well++
		}
	})
	if well < 30000 {
		t.Errorf("only %d were expressions", well)
	}
}

// ---- P4.3 (Show)

func TestShow(t *testing.T) {
	for _, c := range []struct{ code, want string }{
		{"a b 2 * -", "a - b * 2"}, {"5 neg", "-(5)"}, {"-5", "-5"}, {"a b c - -", "a - (b - c)"},
		{"a", "a"}, {"abcdefghijklmnopqrstuvwx", "abcdefghijklmnopqrstuvwx"}, {"$0", "$0"}, {"$1", "$1"}, {"0", "0"}, {"1099511627776", "1099511627776"}, {"-1099511627776", "-1099511627776"},

		// Each instruction.
		{"a neg", "-a"}, {"a not", "!a"}, {"a b +", "a + b"}, {"a b -", "a - b"}, {"a b *", "a * b"}, {"a b min", "min(a, b)"}, {"a b max", "max(a, b)"}, {"a b <", "a < b"}, {"a b <=", "a <= b"},
		{"a b =", "a = b"}, {"a b &", "a & b"}, {"a b |", "a | b"}, {"a b c if", "if(a, b, c)"},

		// The operand of a minus, and of a not.
		{"0 neg", "-(0)"}, {"-5 neg", "--5"}, {"5 neg neg", "--(5)"}, {"-5 neg neg", "---5"}, {"5 not", "!5"}, {"-5 not", "!-5"}, {"5 neg not", "!-(5)"}, {"5 not neg", "-!5"}, {"$0 neg", "-$0"}, {"a not not", "!!a"},
		{"a b + neg", "-(a + b)"}, {"a b * neg", "-(a * b)"}, {"a b * not", "!(a * b)"}, {"a b < not", "!(a < b)"}, {"a b & neg", "-(a & b)"}, {"a b | not", "!(a | b)"}, {"a b min neg", "-min(a, b)"}, {"a b c if not", "!if(a, b, c)"},

		// A first operand of the same level has none, a second one has; those of a comparison have both.
		{"a b + c +", "a + b + c"}, {"a b - c -", "a - b - c"}, {"a b + c -", "a + b - c"}, {"a b c + +", "a + (b + c)"}, {"a b c - +", "a + (b - c)"}, {"a b * c *", "a * b * c"}, {"a b c * *", "a * (b * c)"},
		{"a b & c &", "a & b & c"}, {"a b c & &", "a & (b & c)"}, {"a b | c |", "a | b | c"}, {"a b c | |", "a | (b | c)"},
		{"a b < c <", "(a < b) < c"}, {"a b c < <", "a < (b < c)"}, {"a b = b c <= =", "(a = b) = (b <= c)"}, {"a b <= c =", "(a <= b) = c"},

		// Tighter ones in looser ones, and the other way.
		{"a b * c +", "a * b + c"}, {"a b c * +", "a + b * c"}, {"a b + c *", "(a + b) * c"}, {"a b c + *", "a * (b + c)"}, {"a b + b c - <", "a + b < b - c"}, {"a b < c +", "(a < b) + c"}, {"a b c < +", "a + (b < c)"},
		{"a b < b c < &", "a < b & b < c"}, {"a b & c <", "(a & b) < c"}, {"a b c & <", "a < (b & c)"}, {"a b & c |", "a & b | c"}, {"a b c & |", "a | b & c"}, {"a b | c &", "(a | b) & c"}, {"a b c | &", "a & (b | c)"},
		{"a b | c *", "(a | b) * c"}, {"a neg b *", "-a * b"}, {"a b neg *", "a * -b"}, {"a -5 -", "a - -5"}, {"-5 -5 *", "-5 * -5"}, {"a 5 neg -", "a - -(5)"}, {"a neg b neg -", "-a - -b"}, {"a not b =", "!a = b"},

		// What is called has anything in it, and is an operand of anything.
		{"a b | b c < min", "min(a | b, b < c)"}, {"a b c if a b + c neg if", "if(if(a, b, c), a + b, -c)"}, {"a b min c max", "max(min(a, b), c)"}, {"a b min c *", "min(a, b) * c"}, {"a b c max -", "a - max(b, c)"},
		{"-5 5 min 5 neg max", "max(min(-5, 5), -(5))"},

		{"a" + strings.Repeat(" b -", 15), "a" + strings.Repeat(" - b", 15)}, {strings.Repeat("a ", 16) + strings.Repeat("- ", 15), strings.Repeat("a - (", 14) + "a - a" + strings.Repeat(")", 14)},
		{"a" + strings.Repeat(" not", 30), strings.Repeat("!", 30) + "a"},
	} {
		if got, e := infix.Show(code(c.code), names(), 2); got != c.want || e != api.OK {
			t.Errorf("%s: %q, %v; not %q", c.code, got, e, c.want)
		}
	}
}

// TestShowOfWhatMayNotBe: expr.Check's error, with the number of variables, and the arguments.
func TestShowOfWhatMayNotBe(t *testing.T) {
	for _, c := range []struct {
		code []api.Ins
		vars []string
		args int
		e    api.Errno
	}{
		{nil, nil, 0, api.ErrForm}, {code("a b"), names(), 2, api.ErrForm}, {code("a +"), names(), 2, api.ErrShort}, {code("neg"), names(), 2, api.ErrShort}, {code("a b if"), names(), 2, api.ErrShort},
		{code("b"), []string{"a"}, 2, api.ErrRange}, {code("a"), nil, 2, api.ErrRange}, {code("$1"), names(), 1, api.ErrRange}, {code("$0"), names(), 0, api.ErrRange}, {code("1099511627777"), names(), 2, api.ErrRange},
		{[]api.Ins{{Op: api.Var, N: -1}}, names(), 2, api.ErrRange}, {[]api.Ins{{Op: api.Arg, N: math.MinInt}}, names(), 2, api.ErrRange}, {[]api.Ins{{Op: api.Var}, {Op: api.Neg, N: 1}}, names(), 2, api.ErrRange},
		{[]api.Ins{{Op: 0}}, names(), 2, api.ErrArg}, {[]api.Ins{{Op: 17}}, names(), 2, api.ErrArg}, {[]api.Ins{{Op: math.MaxInt}}, names(), 2, api.ErrArg}, {[]api.Ins{{Op: math.MinInt}}, names(), 2, api.ErrArg},
		{code("a"), names(), -1, api.ErrArg}, {code("a"), names(), math.MinInt, api.ErrArg}, {slices.Repeat(code("a"), 32), names(), 2, api.ErrBig}, {slices.Repeat(code("a"), 32), names(), -1, api.ErrArg},
		{append(code("a"), slices.Repeat(code("not"), 31)...), names(), 2, api.ErrBig},
	} {
		if got, e := infix.Show(c.code, c.vars, c.args); got != "" || e != c.e {
			t.Errorf("%v: %q, %v; not %v", c.code, got, e, c.e)
		}
	}
	source := rand.New(rand.NewSource(6))
	for range 50000 {
		l := make([]api.Ins, source.Intn(8))
		for i := range l {
			l[i] = api.Ins{Op: source.Intn(19) - 1, N: max(0, source.Intn(8)-5)}
		}
		vars, args := names()[:source.Intn(3)], source.Intn(4)-1
		_, want := expr.Check(l, len(vars), args)
		if got, e := infix.Show(l, vars, args); e != want || (got == "") != (e != api.OK) {
			t.Fatalf("%v: %q, %v; not %v", l, got, e, want)
		}
	}
}

// TestShowOfAnyNames: variables that are no names, and arguments beyond the tenth, are told as they are.
func TestShowOfAnyNames(t *testing.T) {
	for _, c := range []struct {
		code []api.Ins
		vars []string
		args int
		want string
	}{
		{code("a b -"), []string{"", "5"}, 0, " - 5"}, {code("a neg"), []string{"5"}, 0, "-5"}, {code("a neg"), []string{""}, 0, "-"}, {code("a"), []string{""}, 0, ""}, {code("b a *"), []string{"x + y", "min"}, 0, "min * x + y"},
		{code("a b -"), []string{"x", "x"}, 0, "x - x"}, {code("$12 neg"), nil, 13, "-$12"}, {code("$9"), nil, 10, "$9"}, {[]api.Ins{{Op: api.Arg, N: math.MaxInt - 1}}, nil, math.MaxInt, "$9223372036854775806"},
	} {
		if got, e := infix.Show(c.code, c.vars, c.args); got != c.want || e != api.OK {
			t.Errorf("%v: %q, %v; not %q", c.code, got, e, c.want)
		}
	}
}

// wordsOf: the words of a text that is an expression; a constant below 0 is one.
func wordsOf(text string) []string {
	var l []string
	for text = strings.TrimLeft(text, " "); text != ""; text = strings.TrimLeft(text, " ") {
		w := word.FindString(text)
		if n := negative.FindString(text); n != "" && (len(l) == 0 || !isOperand(l[len(l)-1])) {
			w = n
		}
		l, text = append(l, w), text[len(w):]
	}
	return l
}

// isOperand: does an operand end with this word?
func isOperand(w string) bool {
	b := w[len(w)-1]
	return !call.MatchString(w) && (b == ')' || b == '_' || 'a' <= b && b <= 'z' || '0' <= b && b <= '9')
}

// spaced: words with blanks as the document lays them.
func spaced(l []string) string {
	text := ""
	for i, w := range l {
		switch {
		case between(w) != 0 && i > 0 && isOperand(l[i-1]):
			text += " " + w + " "
		case w == ",":
			text += ", "
		default:
			text += w
		}
	}
	return text
}

// without: each row of words that is left when a pair of brackets, but those of a call, is taken away.
func without(l []string) [][]string {
	var rows [][]string
	var opened []int
	for i, w := range l {
		switch w {
		case "(":
			opened = append(opened, i)
		case ")":
			first := opened[len(opened)-1]
			opened = opened[:len(opened)-1]
			if first == 0 || !call.MatchString(l[first-1]) {
				rows = append(rows, slices.Concat(l[:first], l[first+1:i], l[i+1:]))
			}
		}
	}
	return rows
}

// TestShowOfManyCodes: what is shown says the code, has its blanks where the document lays them, and no brackets that could be spared.
func TestShowOfManyCodes(t *testing.T) {
	bracketed := 0
	manyCodes(func(l []api.Ins) {
		text, e := infix.Show(l, names(), 2)
		if e != api.OK {
			t.Fatalf("%v: %v", l, e)
		}
		if said, _, e := wantedParse(text, names(), 2); !slices.Equal(said, l) || e != api.OK {
			t.Fatalf("%v: %q", l, text)
		}
		if want := spaced(wordsOf(text)); text != want {
			t.Fatalf("%v: %q, not %q", l, text, want)
		}
		for _, less := range without(wordsOf(text)) {
			bracketed++
			if said, _, e := wantedParse(spaced(less), names(), 2); e == api.OK && slices.Equal(said, l) {
				t.Fatalf("%v: %q, which %q says, too", l, text, spaced(less))
			}
		}
	})
	if bracketed < 30000 {
		t.Errorf("only %d pairs of brackets", bracketed)
	}
}

// ---- P4.4 (there and back)

func TestShownIsParsedAsItWas(t *testing.T) {
	manyCodes(func(l []api.Ins) {
		text, _ := infix.Show(l, names(), 2)
		if got, at, e := infix.Parse(text, names(), 2); !slices.Equal(got, l) || at != 0 || e != api.OK {
			t.Fatalf("%v: %q: %v, %d, %v", l, text, got, at, e)
		}
	})
	source := rand.New(rand.NewSource(7))
	many := make([]string, 500)
	for i := range many {
		many[i] = "v_" + strconv.Itoa(i)
	}
	for range 5000 {
		l := anyCode(source, 31)
		for i := range l {
			switch l[i].Op {
			case api.Var:
				l[i].N = source.Intn(500)
			case api.Arg:
				l[i].N = source.Intn(10)
			}
		}
		text, _ := infix.Show(l, many, 10)
		if got, at, e := infix.Parse(text, many, 10); !slices.Equal(got, l) || at != 0 || e != api.OK {
			t.Fatalf("%v: %q: %v, %d, %v", l, text, got, at, e)
		}
	}
}

// TestParsedIsShownAndParsedAgain: whatever the text looked like, and though two variables have one name.
func TestParsedIsShownAndParsedAgain(t *testing.T) {
	well := 0
	for _, vars := range [][]string{names(), {"b", "a", "a", "b", "c", "min", "?"}} {
		manyTexts(func(text string) {
			l, _, e := infix.Parse(text, vars, 2)
			if e != api.OK {
				return
			}
			well++
			shown, e := infix.Show(l, vars, 2)
			if e != api.OK {
				t.Fatalf("%q: %v: %v", text, l, e)
			}
			if got, at, e := infix.Parse(shown, vars, 2); !slices.Equal(got, l) || at != 0 || e != api.OK {
				t.Fatalf("%q, then %q: %v, %d, %v; not %v", text, shown, got, at, e, l)
			}
		})
	}
	if well < 40000 {
		t.Errorf("only %d were expressions", well)
	}
}

// ---- R1, R3

// TestNothingHandedInIsChanged: nor kept, and what is answered is new memory.
func TestNothingHandedInIsChanged(t *testing.T) {
	source := rand.New(rand.NewSource(8))
	for range 2000 {
		l := anyCode(source, 1+source.Intn(31))
		room, vars := append(slices.Clone(l), api.Ins{Op: 99}), append(names(), "spare")
		given, named := room[:len(l)], vars[:len(vars)-1]
		text, _ := infix.Show(given, named, 2)
		first, _, _ := infix.Parse(text, named, 2)
		if !slices.Equal(room, append(slices.Clone(l), api.Ins{Op: 99})) || !slices.Equal(vars, append(names(), "spare")) {
			t.Fatalf("%v: %v, %q", l, room, vars)
		}
		clear(first[:cap(first)])
		clear(room)
		clear(vars)
		if again, _, e := infix.Parse(text, names(), 2); !slices.Equal(again, l) || e != api.OK {
			t.Fatalf("%v: %v, %v", l, again, e)
		}
		if again, e := infix.Show(l, names(), 2); again != text || e != api.OK {
			t.Fatalf("%v: %q, %v; not %q", l, again, e, text)
		}
	}
}

// TestAnyBytes: rows of bytes of all sorts are answered as the document says.
func TestAnyBytes(t *testing.T) {
	source := rand.New(rand.NewSource(9))
	for range 20000 {
		text := make([]byte, source.Intn(12))
		for i := range text {
			text[i] = byte(source.Intn(256))
		}
		checkParse(t, string(text), names(), 2)
		infix.Name(string(text))
	}
	for _, one := range pieces() {
		for _, n := range []int{31, 32, 500, 2047, 2048, 2049, 10000} {
			text := strings.Repeat(one, n/len(one))
			checkParse(t, text, names(), 2)
			checkParse(t, "a"+text, names(), 2)
			checkParse(t, text+"a", names(), 2)
			infix.Name(text)
		}
	}
}
