package tabular_test

import (
	"maps"
	"math"
	"math/rand"
	"reflect"
	"regexp"
	"slices"
	"strconv"
	"strings"
	"testing"

	"surmise/api"
	"surmise/infix"
	"surmise/rules"
	"surmise/tabular"
)

const top = api.MaxValue

const ordersText = `states draft open done
vars total=0 many=0
rule add 1 from draft open
guard 16 0 < $0
step open total := total + $0; many := many + 1
rule close 0 from open
step done
`

// orders is the table of ordersText.
func orders() api.Table {
	sum := func(a, b api.Ins) []api.Ins { return []api.Ins{a, b, {Op: api.Add}} }
	return api.Table{
		States: []string{"draft", "open", "done"}, Vars: []string{"total", "many"}, Start: []int{0, 0},
		Rules: []api.Rule{
			{
				Name: "add", Args: 1, From: []int{0, 1},
				Guards: []api.Guard{{Code: 16, Test: []api.Ins{{Op: api.Const}, {Op: api.Arg}, {Op: api.Less}}}},
				Steps: []api.Step{{To: 1, Sets: []api.Set{
					{Var: 0, Value: sum(api.Ins{Op: api.Var}, api.Ins{Op: api.Arg})},
					{Var: 1, Value: sum(api.Ins{Op: api.Var, N: 1}, api.Ins{Op: api.Const, N: 1})},
				}}},
			},
			{Name: "close", From: []int{1}, Steps: []api.Step{{To: 2}}},
		},
	}
}

// listed is a list of its own; nil, if it has nothing.
func listed[T any](l []T) []T {
	return append([]T(nil), l...)
}

// plain is a table that shares nothing with another one, in which each list without an element is nil, and each To below 0 is -1.
func plain(t api.Table) api.Table {
	p := api.Table{States: listed(t.States), Vars: listed(t.Vars), Start: listed(t.Start), Rules: listed(t.Rules)}
	for i := range p.Rules {
		r := &p.Rules[i]
		r.From, r.Guards, r.Steps = listed(r.From), listed(r.Guards), listed(r.Steps)
		for j := range r.Guards {
			r.Guards[j].Test = listed(r.Guards[j].Test)
		}
		for j := range r.Steps {
			s := &r.Steps[j]
			s.Sets, s.To = listed(s.Sets), max(s.To, -1)
			for k := range s.Sets {
				s.Sets[k].Value = listed(s.Sets[k].Value)
			}
		}
	}
	return p
}

// same: do two tables say the same?
func same(a, b api.Table) bool { return reflect.DeepEqual(plain(a), plain(b)) }

// ---- Another way to read a text: all complaints of a line are gathered, and the first in the line is taken.

// other is what this way has read.
type other struct {
	table      api.Table
	said       int
	complaints map[int]api.Errno // of the line, by the place
}

func (o *other) complain(at int, e api.Errno) {
	if _, ahead := o.complaints[at]; !ahead && e != api.OK {
		o.complaints[at] = e
	}
}

// found is one of a list by its name.
func (o *other) found(list []string, name string, at int) int {
	if !infix.Name(name) {
		o.complain(at, api.ErrForm)
	}
	n := slices.Index(list, name)
	if n < 0 {
		o.complain(at, api.ErrNone)
	}
	return n
}

// number is one that a sort of texts has.
func (o *other) number(sort *regexp.Regexp, word string, at int) int {
	n, err := strconv.ParseInt(word, 10, 64)
	if !sort.MatchString(word) || err != nil || n > top || n < -top {
		o.complain(at, api.ErrForm)
		return 0
	}
	return int(n)
}

func (o *other) expression(text string, at int) []api.Ins {
	code, _, e := infix.Parse(strings.Trim(text, " "), o.table.Vars, o.table.Rules[len(o.table.Rules)-1].Args)
	o.complain(at, e)
	return code
}

var (
	words    = regexp.MustCompile(`[^ ]+`)
	unsigned = regexp.MustCompile(`^(0|[1-9][0-9]*)$`)
	signed   = regexp.MustCompile(`^(0|-?[1-9][0-9]*)$`)
	setting  = regexp.MustCompile(`^ *([^ ]*) *([^ ]*) *([^;]*)(;?)`)
)

// sets reads what stands behind a step's state.
func (o *other) sets(line string, at int) []api.Set {
	var l []api.Set
	for more := strings.Trim(line[at:], " ") != ""; more; {
		m := setting.FindStringSubmatchIndex(line[at:])
		part := func(i int) (string, int) { return line[at+m[2*i] : at+m[2*i+1]], at + m[2*i] }
		name, place := part(1)
		sign, signed := part(2)
		text, begins := part(3)
		v := o.found(o.table.Vars, name, place)
		if sign != ":=" {
			o.complain(signed, api.ErrForm)
		}
		l = append(l, api.Set{Var: v, Value: o.expression(text, begins)})
		more = m[8] < m[9]
		at += m[9]
	}
	return l
}

// line reads a line, whose words stand at such places.
func (o *other) line(line string, at [][]int) {
	word := func(i int) (string, int) {
		if i >= len(at) {
			return "", len(line) + i
		}
		return line[at[i][0]:at[i][1]], at[i][0]
	}
	t := &o.table
	switch first, _ := word(0); {
	case o.said == 0 && first == "states":
		for i := 1; i == 1 || i < len(at); i++ {
			name, place := word(i)
			t.States = append(t.States, name)
			o.found([]string{name}, name, place)
		}
	case o.said == 1 && first == "vars":
		for i := 1; i < len(at); i++ {
			both, place := word(i)
			cut := max(0, strings.IndexByte(both, '='))
			o.found([]string{both[:cut]}, both[:cut], place)
			t.Vars, t.Start = append(t.Vars, both[:cut]), append(t.Start, o.number(signed, both[min(len(both), cut+1):], place))
		}
	case o.said > 1 && first == "rule":
		o.rule(word, len(at))
	case len(t.Rules) > 0 && first == "guard" && len(t.Rules[len(t.Rules)-1].Steps) == 0:
		number, place := word(1)
		g := api.Guard{Code: o.number(unsigned, number, place)}
		if _, begins := word(2); begins < len(line) {
			g.Test = o.expression(line[begins:], begins)
		} else {
			o.complain(begins, api.ErrForm)
		}
		r := &t.Rules[len(t.Rules)-1]
		r.Guards = append(r.Guards, g)
	case len(t.Rules) > 0 && first == "step":
		s := api.Step{To: -1}
		to, place := word(1)
		if to != "-" {
			s.To = o.found(t.States, to, place)
		}
		if len(at) > 1 {
			s.Sets = o.sets(line, at[1][1])
		}
		r := &t.Rules[len(t.Rules)-1]
		r.Steps = append(r.Steps, s)
	default:
		o.complain(0, api.ErrForm)
	}
}

// rule reads a rule's line of so many words.
func (o *other) rule(word func(int) (string, int), many int) {
	name, place := word(1)
	o.found([]string{name}, name, place)
	args, place := word(2)
	r := api.Rule{Name: name, Args: o.number(unsigned, args, place)}
	if many > 3 {
		if from, place := word(3); from != "from" {
			o.complain(place, api.ErrForm)
		}
		for i := 4; i == 4 || i < many; i++ {
			state, place := word(i)
			r.From = append(r.From, o.found(o.table.States, state, place))
		}
	}
	o.table.Rules = append(o.table.Rules, r)
}

// wantedParse: what the document says.
func wantedParse(text string) (api.Table, int, api.Errno) {
	if len(text) > 8192 {
		return api.Table{}, 0, api.ErrBig
	}
	o := other{}
	lines := strings.Split(text, "\n")
	for n, line := range lines {
		o.complaints = map[int]api.Errno{}
		if at := words.FindAllStringIndex(line, -1); at != nil {
			o.line(line, at)
			o.said++
		}
		if len(o.complaints) > 0 {
			return api.Table{}, n, o.complaints[slices.Min(slices.Collect(maps.Keys(o.complaints)))]
		}
	}
	if o.said < 2 {
		return api.Table{}, len(lines), api.ErrForm
	}
	return o.table, 0, api.OK
}

func checkParse(t *testing.T, text string) api.Errno {
	t.Helper()
	got, at, e := tabular.Parse(text)
	want, place, errno := wantedParse(text)
	if !same(got, want) || at != place || e != errno {
		t.Fatalf("%q: %v, %d, %v; not %v, %d, %v", text, got, at, e, want, place, errno)
	}
	if e != api.OK && !reflect.DeepEqual(got, api.Table{}) {
		t.Fatalf("%q: %v beside %v", text, got, e)
	}
	return e
}

// ---- Tables and texts of all sorts

// someNames: so many names.
func someNames(source *rand.Rand, many int) []string {
	l := []string{"a", "b", "draft", "from", "states", "vars", "rule", "guard", "step", "x9_", "abcdefghijklmnopqrstuvwx", "mini"}
	source.Shuffle(len(l), func(i, j int) { l[i], l[j] = l[j], l[i] })
	return l[:many]
}

func someValue(source *rand.Rand) int {
	l := []int{0, 1, -1, 5, -12, top, -top}
	return l[source.Intn(len(l))]
}

// someCode: an expression with so many variables and arguments, of at most so many instructions.
func someCode(source *rand.Rand, vars, args, size int) []api.Ins {
	switch own := source.Intn(4); {
	case size >= 3 && own > 0:
		first := 1 + source.Intn(size-2)
		l := slices.Concat(someCode(source, vars, args, first), someCode(source, vars, args, size-1-first))
		return append(l, api.Ins{Op: api.Add + source.Intn(10)})
	case size >= 2 && own == 0:
		return append(someCode(source, vars, args, size-1), api.Ins{Op: api.Neg + source.Intn(2)})
	case vars > 0 && source.Intn(2) == 0:
		return []api.Ins{{Op: api.Var, N: source.Intn(vars)}}
	case args > 0 && source.Intn(2) == 0:
		return []api.Ins{{Op: api.Arg, N: source.Intn(args)}}
	}
	return []api.Ins{{Op: api.Const, N: someValue(source)}}
}

// someRule: one of a table that may be.
func someRule(source *rand.Rand, t api.Table, name string) api.Rule {
	r := api.Rule{Name: name, Args: source.Intn(5), From: source.Perm(len(t.States))[:source.Intn(len(t.States)+1)]}
	value := func() []api.Ins { return someCode(source, len(t.Vars), r.Args, 1+source.Intn(8)) }
	for range source.Intn(3) {
		r.Guards = append(r.Guards, api.Guard{Code: 16 + source.Intn(48), Test: value()})
	}
	for range 1 + source.Intn(3) {
		s := api.Step{To: source.Intn(len(t.States)+1) - 1}
		for _, v := range source.Perm(len(t.Vars))[:source.Intn(len(t.Vars)+1)] {
			s.Sets = append(s.Sets, api.Set{Var: v, Value: value()})
		}
		r.Steps = append(r.Steps, s)
	}
	return r
}

// someTable: one that may be.
func someTable(source *rand.Rand) api.Table {
	t := api.Table{States: someNames(source, 1+source.Intn(8)), Vars: someNames(source, source.Intn(7))}
	for range t.Vars {
		t.Start = append(t.Start, someValue(source))
	}
	for _, name := range someNames(source, source.Intn(5)) {
		t.Rules = append(t.Rules, someRule(source, t, name))
	}
	return t
}

// text is a table's; each blank is asked of blanks (of at least so many), each line's end of ends.
func text(t api.Table, blanks func(least int) string, ends func() string) string {
	var s strings.Builder
	say := func(l ...string) {
		s.WriteString(blanks(0))
		for i, word := range l {
			if i > 0 {
				s.WriteString(blanks(1))
			}
			s.WriteString(word)
		}
		s.WriteString(blanks(0) + ends())
	}
	named := []string{"vars"}
	for i, v := range t.Vars {
		named = append(named, v+"="+strconv.Itoa(t.Start[i]))
	}
	say(append([]string{"states"}, t.States...)...)
	say(named...)
	for _, r := range t.Rules {
		shown := func(code []api.Ins) string {
			text, _ := infix.Show(code, t.Vars, r.Args)
			return text
		}
		head := []string{"rule", r.Name, strconv.Itoa(r.Args)}
		for i, state := range r.From {
			head = append(head, []string{"from", t.States[state]}[min(i, 1):]...)
		}
		say(head...)
		for _, g := range r.Guards {
			say("guard", strconv.Itoa(g.Code), shown(g.Test))
		}
		for _, step := range r.Steps {
			l := []string{"step", append([]string{"-"}, t.States...)[step.To+1]}
			for i, set := range step.Sets {
				value := shown(set.Value)
				if i < len(step.Sets)-1 {
					value += blanks(0) + ";"
				}
				l = append(l, t.Vars[set.Var], ":=", value)
			}
			say(l...)
		}
	}
	return s.String()
}

// shownText: as the document lays it.
func shownText(t api.Table) string {
	return text(t, func(least int) string { return strings.Repeat(" ", least) }, func() string { return "\n" })
}

// looseText: with more blanks, and lines that say nothing.
func looseText(source *rand.Rand, t api.Table) string {
	blanks := func(least int) string { return strings.Repeat(" ", least+max(0, source.Intn(6)-3)) }
	return text(t, blanks, func() string { return strings.Repeat("\n"+blanks(0), 1+max(0, source.Intn(6)-4)) })
}

// manyTables visits tables that may be.
func manyTables(visit func(*rand.Rand, api.Table)) {
	source := rand.New(rand.NewSource(6))
	for range 6000 {
		visit(source, someTable(source))
	}
}

// pieces are parts of lines.
func pieces() []string {
	l := []string{" ", "  ", "\n", " \n ", "a", "b", "draft", "A", "x", "zz", "min", "abcdefghijklmnopqrstuvwxy", "é", "\t", "\r", "\x00", ""}
	l = append(l, "states", "vars", "rule", "from", "guard", "step", " from ", "-", ":=", ";", "=", " ; ", " := ", "step - ", "guard 16 ", "rule q 1")
	return append(l, "0", "1", "-1", "-0", "01", "16", "+1", "1099511627776", "1099511627777", "-1099511627776", "18446744073709551617", "$0", "$3", "$4", "a=1", "b=-1", "a + ", " < ")
}

// spoilt changes a text at a few places: pieces are put in, bytes are taken away, lines change places.
func spoilt(source *rand.Rand, text string) string {
	for range 1 + source.Intn(2) {
		at := source.Intn(len(text) + 1)
		end := min(len(text), at+source.Intn(4))
		text = text[:at] + pieces()[source.Intn(len(pieces()))] + text[end:]
	}
	if lines := strings.Split(text, "\n"); source.Intn(4) == 0 {
		i, j := source.Intn(len(lines)), source.Intn(len(lines))
		lines[i], lines[j] = lines[j], lines[i]
		text = strings.Join(lines[source.Intn(2):], "\n")
	}
	return text
}

// ---- P6.1 (Parse)

func checkRead(t *testing.T, text string, want api.Table) {
	t.Helper()
	if got, at, e := tabular.Parse(text); !same(got, want) || at != 0 || e != api.OK {
		t.Errorf("%q: %v, %d, %v; not %v", text, got, at, e, want)
	}
}

func TestParse(t *testing.T) {
	checkRead(t, ordersText, orders())
	checkRead(t, strings.TrimSuffix(ordersText, "\n"), orders())
	checkRead(t, "\n   \n"+strings.ReplaceAll(ordersText, "\n", " \n\n  ")+"\n\n", orders())
	checkRead(t, strings.NewReplacer("total +", "total+", ";", " ;", "step open", "step   open ", " :=", "   :=").Replace(ordersText), orders())
	checkRead(t, strings.ReplaceAll(ordersText, "; ", ";"), orders())

	checkRead(t, "states a\nvars", api.Table{States: []string{"a"}})
	checkRead(t, "states a\nvars a=-5 b=0 c=1099511627776 d=-1099511627776", api.Table{States: []string{"a"}, Vars: []string{"a", "b", "c", "d"}, Start: []int{-5, 0, top, -top}})
}

// TestParseOfWordsOfLines: the words that lines begin with may be names, too.
func TestParseOfWordsOfLines(t *testing.T) {
	text := "states states vars rule\nvars vars=1 guard=2\nrule from 0 from rule vars\nguard 20 guard\nstep vars vars := guard\nstep -"
	checkRead(t, text, api.Table{
		States: []string{"states", "vars", "rule"}, Vars: []string{"vars", "guard"}, Start: []int{1, 2},
		Rules: []api.Rule{{
			Name: "from", From: []int{2, 1}, Guards: []api.Guard{{Code: 20, Test: []api.Ins{{Op: api.Var, N: 1}}}},
			Steps: []api.Step{{To: 1, Sets: []api.Set{{Var: 0, Value: []api.Ins{{Op: api.Var, N: 1}}}}}, {To: -1}},
		}},
	})
}

// TestParseOfTablesThatMayNotBe: what rules.Check alone finds wrong is read; of names that stand twice the first one is meant.
func TestParseOfTablesThatMayNotBe(t *testing.T) {
	one := []api.Ins{{Op: api.Const, N: 1}}
	text := "states a b a\nvars v=1 w=2 v=3\nrule r 1099511627776 from a b a\nguard 0 1\nguard 1099511627776 $9\nrule r 0\nguard 5 w\nstep a v := 1; v := 1"
	checkRead(t, text, api.Table{
		States: []string{"a", "b", "a"}, Vars: []string{"v", "w", "v"}, Start: []int{1, 2, 3},
		Rules: []api.Rule{
			{Name: "r", Args: top, From: []int{0, 1, 0}, Guards: []api.Guard{{Code: 0, Test: one}, {Code: top, Test: []api.Ins{{Op: api.Arg, N: 9}}}}},
			{Name: "r", Guards: []api.Guard{{Code: 5, Test: []api.Ins{{Op: api.Var, N: 1}}}}, Steps: []api.Step{{Sets: []api.Set{{Value: one}, {Value: one}}}}},
		},
	})
	many := api.Table{}
	text = "states"
	for i := range 500 {
		many.States = append(many.States, "s"+strconv.Itoa(i))
	}
	text += " " + strings.Join(many.States, " ") + "\nvars"
	for i := range 300 {
		many.Vars, many.Start = append(many.Vars, "v"+strconv.Itoa(i)), append(many.Start, i)
		text += " v" + strconv.Itoa(i) + "=" + strconv.Itoa(i)
	}
	for range 20 {
		r := api.Rule{Name: "r", From: []int{499}}
		for range 5 {
			r.Steps = append(r.Steps, api.Step{To: 77, Sets: []api.Set{{Var: 299, Value: one}}})
		}
		many.Rules = append(many.Rules, r)
		text += "\nrule r 0 from s499" + strings.Repeat("\nstep s77 v299 := 1", 5)
	}
	checkRead(t, text, many)
}

func TestParseTellsWhatIsWrongAheadOfRules(t *testing.T) {
	for _, c := range []struct {
		text string
		at   int
		e    api.Errno
	}{
		// Lines that are missing, and how many there are.
		{"", 1, api.ErrForm}, {"   ", 1, api.ErrForm}, {"\n", 2, api.ErrForm}, {" \n\n  ", 3, api.ErrForm}, {"states a", 1, api.ErrForm}, {"states a\n", 2, api.ErrForm}, {"\nstates a\n \n", 4, api.ErrForm},

		// Lines that cannot stand there.
		{"vars", 0, api.ErrForm}, {"vars\nstates a", 0, api.ErrForm}, {"states a\nstates a", 1, api.ErrForm}, {"states a\n\nrule r 0", 2, api.ErrForm}, {"rule r 0", 0, api.ErrForm},
		{"guard 16 1", 0, api.ErrForm}, {"step -", 0, api.ErrForm}, {"states a\nguard 16 1", 1, api.ErrForm}, {"states a\nstep -", 1, api.ErrForm},
		{"State a\nvars", 0, api.ErrForm}, {"stat es\nvars", 0, api.ErrForm}, {"statess a\nvars", 0, api.ErrForm}, {"\tstates a\nvars", 0, api.ErrForm}, {"states\ta\nvars", 0, api.ErrForm}, {"states a\r\nvars", 0, api.ErrForm},
		{"states a\n\t\nvars", 1, api.ErrForm}, {"\x00\nstates a\nvars", 0, api.ErrForm}, {"# states\nstates a\nvars", 0, api.ErrForm}, {"states a\nvar", 1, api.ErrForm}, {"states a\nvarss", 1, api.ErrForm},
		{"states a\nvars\nvars", 2, api.ErrForm}, {"states a\nvars\nstates a", 2, api.ErrForm}, {"states a\nvars\nguard 16 1", 2, api.ErrForm}, {"states a\nvars\nstep -", 2, api.ErrForm}, {"states a\nvars\nfrom a", 2, api.ErrForm},

		// States.
		{"states\nvars", 0, api.ErrForm}, {"states  \nvars", 0, api.ErrForm}, {"states A\nvars", 0, api.ErrForm}, {"states a b_ 9\nvars", 0, api.ErrForm}, {"states a, b\nvars", 0, api.ErrForm}, {"states a min\nvars", 0, api.ErrForm},
		{"states -\nvars", 0, api.ErrForm}, {"states abcdefghijklmnopqrstuvwxy\nvars", 0, api.ErrForm}, {"states abcdefghijklmnopqrstuvwx\nvars", 0, api.OK}, {"states \u00a0a\nvars", 0, api.ErrForm}, {"states a\u2003b\nvars", 0, api.ErrForm},

		// Variables, and what they begin with.
		{"states a\nvars a", 1, api.ErrForm}, {"states a\nvars a=", 1, api.ErrForm}, {"states a\nvars =1", 1, api.ErrForm}, {"states a\nvars a=1=2", 1, api.ErrForm}, {"states a\nvars a==1", 1, api.ErrForm}, {"states a\nvars a = 1", 1, api.ErrForm},
		{"states a\nvars a= 1", 1, api.ErrForm}, {"states a\nvars a =1", 1, api.ErrForm}, {"states a\nvars if=1", 1, api.ErrForm}, {"states a\nvars A=1", 1, api.ErrForm}, {"states a\nvars a:=1", 1, api.ErrForm}, {"states a\nvars a=1,b=2", 1, api.ErrForm},
		{"states a\nvars a=00", 1, api.ErrForm}, {"states a\nvars a=01", 1, api.ErrForm}, {"states a\nvars a=-0", 1, api.ErrForm}, {"states a\nvars a=-01", 1, api.ErrForm}, {"states a\nvars a=-", 1, api.ErrForm}, {"states a\nvars a=+1", 1, api.ErrForm},
		{"states a\nvars a=--1", 1, api.ErrForm}, {"states a\nvars a=1x", 1, api.ErrForm}, {"states a\nvars a=0x1", 1, api.ErrForm}, {"states a\nvars a=1_0", 1, api.ErrForm}, {"states a\nvars a=b", 1, api.ErrForm}, {"states a\nvars a=1.0", 1, api.ErrForm},
		{"states a\nvars a=1099511627777", 1, api.ErrForm}, {"states a\nvars a=-1099511627777", 1, api.ErrForm}, {"states a\nvars a=18446744073709551616", 1, api.ErrForm}, {"states a\nvars a=9223372036854775808", 1, api.ErrForm},
		{"states a\nvars a=" + strings.Repeat("9", 5000), 1, api.ErrForm}, {"states a\nvars a=1 b", 1, api.ErrForm}, {"states a\nvars a=1 a=1", 0, api.OK},

		// The first line of several; it is told ahead of one that is missing.
		{"states 5\nvars 5", 0, api.ErrForm}, {"states a\nvars 5\nrule", 1, api.ErrForm}, {"\n\nstates 5", 2, api.ErrForm},
	} {
		if got, at, e := tabular.Parse(c.text); at != c.at || e != c.e || e != api.OK && !reflect.DeepEqual(got, api.Table{}) {
			t.Errorf("%.200q: %v, %d, %v; not %d, %v", c.text, got, at, e, c.at, c.e)
		}
		checkParse(t, c.text)
	}
}

// checkWrong reads lines behind those of states a and b, variables v and w, and a rule r with an argument, of which line 4 is wrong.
func checkWrong(t *testing.T, lines string, e api.Errno) {
	t.Helper()
	text := "states a b\n\nvars v=1 w=2\nrule r 1 from b\n" + lines + "\nstep zz"
	if got, at, errno := tabular.Parse(text); at != 4 || errno != e || !reflect.DeepEqual(got, api.Table{}) {
		t.Errorf("%.200q: %v, %d, %v; not %v", lines, got, at, errno, e)
	}
	checkParse(t, text)
}

func TestParseTellsWhatIsWrongWithRules(t *testing.T) {
	for _, line := range []string{
		"rule", "rule q", "rule q x", "rule 0", "rule 0 q", "rule Q 0", "rule max 0", "rule q=0", "rule q 0 b", "rule q 0 to b", "rule q 0 From b", "rule q 0 from", "rule q 0 from  ", "rule q 0 from 5", "rule q 0 from -",
		"rule q 0 from a,b", "rule q -1", "rule q -0", "rule q 00", "rule q 01", "rule q +1", "rule q 1099511627777", "rule q 18446744073709551617", "rule q $0", "rule q 1x from b", "rule q from b", "rule q 0 a from b",
		"rulee q 0", "rules q 0", "Rule q 0", "rule q 0;", "step", "stepa", "from b", "states a b", "vars", "vars v=1", "else", "-", ";", ":=", "r", "guards 16 1",
	} {
		checkWrong(t, line, api.ErrForm)
	}
	for _, line := range []string{"rule q 0 from c", "rule q 0 from a c", "rule q 0 from v", "rule q 0 from r", "rule q 0 from from", "rule q 0 from abcdefghijklmnopqrstuvwx"} {
		checkWrong(t, line, api.ErrNone)
	}

	// The first in the line; of one word ErrForm ahead of ErrNone.
	checkWrong(t, "rule q 0 from c 5", api.ErrNone)
	checkWrong(t, "rule q 0 from 5 c", api.ErrForm)
	checkWrong(t, "rule q 0 from C", api.ErrForm)
	checkWrong(t, "rule q 0 from abcdefghijklmnopqrstuvwxy", api.ErrForm)
	checkWrong(t, "rule q x from c", api.ErrForm)
}

func TestParseTellsWhatIsWrongWithGuards(t *testing.T) {
	sum := "1" + strings.Repeat("+1", 16)
	for _, c := range []struct {
		line string
		e    api.Errno
	}{
		{"guard", api.ErrForm}, {"guard ", api.ErrForm}, {"guard 16", api.ErrForm}, {"guard 16  ", api.ErrForm}, {"guard x 1", api.ErrForm}, {"guard v < 1", api.ErrForm}, {"guard 016 1", api.ErrForm}, {"guard -16 1", api.ErrForm}, {"guard 16: 1", api.ErrForm},
		{"guard 16; 1", api.ErrForm}, {"guard 1099511627777 1", api.ErrForm}, {"guard 16 1;", api.ErrForm}, {"guard 16 1; 2", api.ErrForm}, {"guard 16 v := 1", api.ErrForm}, {"guard 16 v <", api.ErrForm}, {"guard 16 v w", api.ErrForm},
		{"guard 16 0 < \t1", api.ErrForm}, {"guard(16) 1", api.ErrForm}, {"guard16 1", api.ErrForm}, {"Guard 16 1", api.ErrForm},

		// The errors of infix.Parse, with the variables and the rule's arguments.
		{"guard 16 u", api.ErrNone}, {"guard 16 a", api.ErrNone}, {"guard 16 r", api.ErrNone}, {"guard 16 1 + u + ?", api.ErrNone}, {"guard 16 1 + ? + u", api.ErrForm}, {"guard 16 $1", api.ErrRange}, {"guard 16 v + $9", api.ErrRange},
		{"guard 16 1099511627777", api.ErrRange}, {"guard 16 " + sum, api.ErrBig}, {"guard 16 " + strings.Repeat("!", 31) + "1", api.ErrBig}, {"guard 16 " + sum + "+u", api.ErrNone},
		{"guard 16 " + strings.Repeat("0", 2049), api.ErrBig}, {"guard 16 1" + strings.Repeat(" ", 2048) + "+ 1", api.ErrBig}, {"guard 16 ?" + strings.Repeat("0", 2048), api.ErrBig}, {"guard x " + strings.Repeat("0", 2049), api.ErrForm},
	} {
		checkWrong(t, c.line, c.e)
	}

	// Behind a step none can stand.
	text := "states a\nvars\nrule r 0\nguard 16 1\nstep a\nguard 17 1"
	if got, at, e := tabular.Parse(text); at != 5 || e != api.ErrForm {
		t.Error(got, at, e)
	}
	// But behind a rule's line, one more.
	if got, at, e := tabular.Parse(strings.ReplaceAll(text, "guard 17", "rule q 0\nguard 17")); e != api.OK || at != 0 || len(got.Rules) != 2 || len(got.Rules[1].Guards) != 1 {
		t.Error(got, at, e)
	}
	// The arguments are those of the guard's own rule.
	if got, at, e := tabular.Parse("states a\nvars\nrule r 2\nguard 16 $1\nrule q 1\nguard 16 $1"); at != 5 || e != api.ErrRange {
		t.Error(got, at, e)
	}
}

func TestParseTellsWhatIsWrongWithSteps(t *testing.T) {
	sum := "1" + strings.Repeat("+1", 16)
	for _, c := range []struct {
		line string
		e    api.Errno
	}{
		{"step", api.ErrForm}, {"step  ", api.ErrForm}, {"step 0", api.ErrForm}, {"step A", api.ErrForm}, {"step --", api.ErrForm}, {"step -1", api.ErrForm}, {"step -;", api.ErrForm}, {"step a; v := 1", api.ErrForm}, {"step ; v := 1", api.ErrForm},
		{"step a ;", api.ErrForm}, {"step a ; v := 1", api.ErrForm}, {"step a v", api.ErrForm}, {"step a v := ", api.ErrForm}, {"step a v 1", api.ErrForm}, {"step a v = 1", api.ErrForm}, {"step a v : = 1", api.ErrForm}, {"step a v := := 1", api.ErrForm},
		{"step a := 1", api.ErrForm}, {"step a 1 := v", api.ErrForm}, {"step a V := 1", api.ErrForm}, {"step a v:=1", api.ErrForm}, {"step a v :=1", api.ErrForm}, {"step a v:= 1", api.ErrForm}, {"step a min := 1", api.ErrForm},
		{"step a v := 1;", api.ErrForm}, {"step a v := 1; ", api.ErrForm}, {"step a v := 1;; w := 1", api.ErrForm}, {"step a v := 1 w := 1", api.ErrForm}, {"step a v := 1, w := 1", api.ErrForm}, {"step a v := ; w := 1", api.ErrForm},
		{"step a v := 1; w", api.ErrForm}, {"step a v; w := 1", api.ErrForm}, {"step a v :=; w := 1", api.ErrForm}, {"step a b", api.ErrNone}, {"step a v := 1; w := 1; ; v := 1", api.ErrForm}, {"step a (v) := 1", api.ErrForm},
		{"step - from a", api.ErrNone}, {"Step a", api.ErrForm}, {"step a u; v := 1", api.ErrForm}, {"step a u:=1", api.ErrForm},

		{"step c", api.ErrNone}, {"step v", api.ErrNone}, {"step r", api.ErrNone}, {"step step", api.ErrNone}, {"step a u := 1", api.ErrNone}, {"step a a := 1", api.ErrNone}, {"step a v := 1; u := 1", api.ErrNone}, {"step - u := 1", api.ErrNone},

		// The errors of infix.Parse, with the variables and the rule's arguments.
		{"step a v := u", api.ErrNone}, {"step a v := a", api.ErrNone}, {"step a v := $1", api.ErrRange}, {"step a v := 1; w := 1099511627777", api.ErrRange}, {"step a v := 1; w := $1", api.ErrRange}, {"step a v := " + sum, api.ErrBig},
		{"step a v := " + strings.Repeat("0", 2049), api.ErrBig}, {"step a v := 1" + strings.Repeat(" ", 2048) + "+ 1; w := u", api.ErrBig}, {"step a v := v +", api.ErrForm}, {"step a v := v ?", api.ErrForm},

		// The first in the line.
		{"step c u := 1", api.ErrNone}, {"step c 5 := 1", api.ErrNone}, {"step 5 u := 1", api.ErrForm}, {"step c v := ?", api.ErrNone}, {"step a u = 1", api.ErrNone}, {"step a u", api.ErrNone}, {"step c v", api.ErrNone}, {"step a U := u", api.ErrForm},
		{"step a v = u", api.ErrForm}, {"step a v := $1; u := 1", api.ErrRange}, {"step a v := u; w := $1", api.ErrNone}, {"step a v := " + sum + "; u", api.ErrBig}, {"step a v := 1; u := " + sum, api.ErrNone}, {"step a v := " + sum + " ?; u", api.ErrForm},
	} {
		checkWrong(t, c.line, c.e)
	}
}

// TestParseOfBlanks: those that are no part of an expression don't count among its bytes.
func TestParseOfBlanks(t *testing.T) {
	far := strings.Repeat(" ", 2049)
	want, _, _ := tabular.Parse("states a\nvars v=0\nrule r 0\nguard 16 v\nstep a v := v")
	for _, lines := range []string{"guard 16" + far + "v\nstep a v := v", "guard 16 v" + far + "\nstep a v := v", "guard 16 v\nstep a v :=" + far + "v", "guard 16 v\nstep a v := v" + far} {
		checkRead(t, "states a\nvars v=0\nrule r 0\n"+lines, want)
	}
	checkRead(t, "states a\nvars v=0\nrule r 0\nguard 16 v\nstep a v := v"+far+"; v := v", api.Table{
		States: want.States, Vars: want.Vars, Start: want.Start,
		Rules: []api.Rule{{Name: "r", Guards: want.Rules[0].Guards, Steps: []api.Step{{To: 0, Sets: []api.Set{want.Rules[0].Steps[0].Sets[0], want.Rules[0].Steps[0].Sets[0]}}}}},
	})
}

func TestParseOfBigTexts(t *testing.T) {
	const table = "states a\nvars"
	for _, c := range []struct {
		text string
		at   int
		e    api.Errno
	}{
		{table + strings.Repeat(" ", 8192-len(table)), 0, api.OK}, {table + strings.Repeat(" ", 8193-len(table)), 0, api.ErrBig}, {strings.Repeat("\n", 8192-len(table)) + table, 0, api.OK}, {strings.Repeat("\n", 8193-len(table)) + table, 0, api.ErrBig},
		{strings.Repeat("\n", 8192), 8193, api.ErrForm}, {strings.Repeat("\n", 8193), 0, api.ErrBig}, {strings.Repeat("?", 8192), 0, api.ErrForm}, {strings.Repeat("?", 8193), 0, api.ErrBig}, {table + "\n?" + strings.Repeat("x", 8192), 0, api.ErrBig},
		{strings.Repeat("é", 4096), 0, api.ErrForm}, {strings.Repeat("é", 4097), 0, api.ErrBig}, {strings.Repeat(table, 100000), 0, api.ErrBig},
	} {
		if got, at, e := tabular.Parse(c.text); at != c.at || e != c.e || e != api.OK && !reflect.DeepEqual(got, api.Table{}) {
			t.Errorf("%.100q, %d bytes: %v, %d, %v; not %d, %v", c.text, len(c.text), got, at, e, c.at, c.e)
		}
	}
	if tabular.MaxTable != 8192 {
		t.Error(tabular.MaxTable)
	}
}

// TestParseOfManyTexts: however many blanks and lines that say nothing there are.
func TestParseOfManyTexts(t *testing.T) {
	manyTables(func(source *rand.Rand, x api.Table) {
		text := looseText(source, x)
		if len(text) > 8192 {
			return
		}
		if got, at, e := tabular.Parse(text); !same(got, x) || at != 0 || e != api.OK {
			t.Fatalf("%q: %v, %d, %v; not %v", text, got, at, e, x)
		}
		checkParse(t, text)
	})
}

func TestParseOfSpoiltTexts(t *testing.T) {
	told := map[api.Errno]int{}
	manyTables(func(source *rand.Rand, x api.Table) {
		x.Rules = x.Rules[:min(len(x.Rules), 2)]
		for range 10 {
			told[checkParse(t, spoilt(source, looseText(source, x)))]++
		}
	})
	for _, e := range []api.Errno{api.OK, api.ErrForm, api.ErrNone, api.ErrRange} {
		if told[e] < 300 {
			t.Errorf("%v: only %d", e, told[e])
		}
	}
}

// TestParseOfShortLines: each row of a few pieces as a line.
func TestParseOfShortLines(t *testing.T) {
	var grow func(ahead, l string, most int)
	grow = func(ahead, l string, most int) {
		checkParse(t, ahead+l)
		if most > 0 {
			for _, one := range []string{"a", " a", " v", " -", " 0", " :=", ";", " ;", " from", "=1", " b=1"} {
				grow(ahead, l+one, most-1)
			}
		}
	}
	grow("", "states", 3)
	grow("states a b\n", "vars", 4)
	grow("states a b\nvars v=1\n", "rule", 4)
	grow("states a b\nvars v=1\nrule r 0\n", "guard", 3)
	grow("states a b\nvars v=1\nrule r 0\n", "step a", 5)
	grow("states a b\nvars v=1\nrule r 0\n", "step", 3)
}

// ---- P6.2 (Show)

func TestShow(t *testing.T) {
	low := orders()
	low.Rules = []api.Rule{{Name: "r", Args: 2, Steps: []api.Step{
		{To: math.MinInt, Sets: []api.Set{{Var: 1, Value: []api.Ins{{Op: api.Arg}, {Op: api.Const, N: -3}, {Op: api.Arg, N: 1}, {Op: api.Sub}, {Op: api.Mul}}}}}, {To: -1}, {To: 0},
	}}}
	low.Start = []int{-top, top}
	for _, c := range []struct {
		table api.Table
		want  string
	}{
		{orders(), ordersText},
		{api.Table{States: []string{"a"}}, "states a\nvars\n"},
		{api.Table{States: []string{"a"}, Vars: []string{"a"}, Start: []int{0}, Rules: []api.Rule{{Name: "a", From: []int{}, Steps: []api.Step{{}}}}}, "states a\nvars a=0\nrule a 0\nstep a\n"},
		{low, "states draft open done\nvars total=-1099511627776 many=1099511627776\nrule r 2\nstep - many := $0 * (-3 - $1)\nstep -\nstep draft\n"},
	} {
		if got, e := tabular.Show(c.table); got != c.want || e != api.OK {
			t.Errorf("%v: %q, %v; not %q", c.table, got, e, c.want)
		}
	}
}

func TestShowOfManyTables(t *testing.T) {
	manyTables(func(_ *rand.Rand, x api.Table) {
		if f := rules.Check(x); f != (api.Fault{}) {
			t.Fatalf("%v: %v", x, f)
		}
		if got, e := tabular.Show(x); got != shownText(x) || e != api.OK {
			t.Fatalf("%v: %q, %v; not %q", x, got, e, shownText(x))
		}
	})
}

// TestShowOfTablesThatMayNotBe: each error that rules.Check has, of each part.
func TestShowOfTablesThatMayNotBe(t *testing.T) {
	told := map[api.Errno]int{}
	for _, spoil := range []func(t *api.Table, r *api.Rule){
		func(t *api.Table, _ *api.Rule) { *t = api.Table{} },
		func(t *api.Table, _ *api.Rule) { t.States = slices.Repeat([]string{"a"}, 9) },
		func(t *api.Table, _ *api.Rule) { t.States[1] = "" },
		func(t *api.Table, _ *api.Rule) { t.States[1] = "draft" },
		func(t *api.Table, _ *api.Rule) { t.Vars[0] = "a b" },
		func(t *api.Table, _ *api.Rule) { t.Start = nil },
		func(t *api.Table, _ *api.Rule) { t.Start[1] = top + 1 },
		func(t *api.Table, _ *api.Rule) { t.Rules = slices.Repeat(t.Rules, 7) },
		func(_ *api.Table, r *api.Rule) { r.Name = "close" },
		func(_ *api.Table, r *api.Rule) { r.Args = 5 },
		func(_ *api.Table, r *api.Rule) { r.From[0] = -1 },
		func(_ *api.Table, r *api.Rule) { r.From[0] = 1 },
		func(_ *api.Table, r *api.Rule) { r.Guards[0].Code = 15 },
		func(_ *api.Table, r *api.Rule) { r.Guards[0].Test = nil },
		func(_ *api.Table, r *api.Rule) { r.Guards[0].Test = slices.Repeat(r.Guards[0].Test, 11) },
		func(_ *api.Table, r *api.Rule) { r.Guards[0].Test[0].Op = 17 },
		func(_ *api.Table, r *api.Rule) { r.Guards[0].Test = r.Guards[0].Test[1:] },
		func(_ *api.Table, r *api.Rule) { r.Steps = nil },
		func(_ *api.Table, r *api.Rule) { r.Steps[0].To = 3 },
		func(_ *api.Table, r *api.Rule) { r.Steps[0].Sets[0].Var = 2 },
		func(_ *api.Table, r *api.Rule) { r.Steps[0].Sets[1].Var = 0 },
		func(_ *api.Table, r *api.Rule) { r.Steps[0].Sets[1].Value[0].N = 2 },
	} {
		x := orders()
		spoil(&x, &x.Rules[0])
		want := rules.Check(x).E
		if got, e := tabular.Show(x); got != "" || e != want || e == api.OK {
			t.Errorf("%v: %q, %v; not %v", x, got, e, want)
		}
		told[want]++
	}
	if len(told) < 6 {
		t.Errorf("only %v", told)
	}
}

// biggest is a table with as much of all as there may be, whose text is far too big to be read.
func biggest() api.Table {
	long := func(b byte, n int) string { return strings.Repeat(string(rune(b)), 22) + strconv.Itoa(10+n) }
	t := api.Table{}
	for i := range api.MaxStates {
		t.States = append(t.States, long('s', i))
	}
	var code []api.Ins
	for i := range api.MaxVars {
		t.Vars, t.Start = append(t.Vars, long('v', i)), append(t.Start, -top)
	}
	for i := range 16 {
		code = append(code, api.Ins{Op: api.Var, N: i % api.MaxVars})
	}
	code = append(code, slices.Repeat([]api.Ins{{Op: api.Most}}, 15)...)
	for i := range api.MaxRules {
		r := api.Rule{Name: long('r', i), Args: api.MaxArgs, From: []int{0, 1, 2, 3, 4, 5, 6, 7}}
		for j := range api.MaxGuards {
			r.Guards = append(r.Guards, api.Guard{Code: api.LastGuard - j, Test: code})
		}
		for j := range api.MaxSteps {
			s := api.Step{To: 7 - j}
			for v := range api.MaxVars {
				s.Sets = append(s.Sets, api.Set{Var: v, Value: code})
			}
			r.Steps = append(r.Steps, s)
		}
		t.Rules = append(t.Rules, r)
	}
	return t
}

// TestShowOfTheBiggestTable: what is shown has no limit.
func TestShowOfTheBiggestTable(t *testing.T) {
	x := biggest()
	got, e := tabular.Show(x)
	if got != shownText(x) || e != api.OK || len(got) < 100000 {
		t.Errorf("%d bytes, %v", len(got), e)
	}
	if y, at, e := tabular.Parse(got); !reflect.DeepEqual(y, api.Table{}) || at != 0 || e != api.ErrBig {
		t.Error(y, at, e)
	}
}

// ---- P6.3 (there and back)

func TestShownIsReadAsItWas(t *testing.T) {
	read := 0
	back := func(x api.Table) {
		text, e := tabular.Show(x)
		if e != api.OK {
			t.Fatalf("%v: %v", x, e)
		}
		if len(text) > 8192 {
			return
		}
		read++
		if got, at, e := tabular.Parse(text); !same(got, x) || at != 0 || e != api.OK {
			t.Fatalf("%v: %q: %v, %d, %v", x, text, got, at, e)
		}
	}
	back(orders())
	manyTables(func(_ *rand.Rand, x api.Table) { back(x) })
	// Up to the last byte that may be.
	x := biggest()
	x.Rules = x.Rules[:1]
	for l := &x.Rules[0].Steps[0]; len(l.Sets) > 0; l.Sets = l.Sets[1:] {
		back(x)
	}
	if read < 5000 {
		t.Errorf("only %d were read", read)
	}
}

// ---- P6.4 (again)

func TestReadIsShownReadAndShownTheSame(t *testing.T) {
	well := 0
	again := func(text string) {
		x, _, e := tabular.Parse(text)
		if e != api.OK || rules.Check(x).E != api.OK {
			return
		}
		first, e := tabular.Show(x)
		if e != api.OK {
			t.Fatalf("%q: %v", text, e)
		}
		if len(first) > 8192 {
			return
		}
		y, _, e := tabular.Parse(first)
		if !same(x, y) || e != api.OK {
			t.Fatalf("%q: %q: %v, %v; not %v", text, first, y, e, x)
		}
		if second, e := tabular.Show(y); second != first || e != api.OK {
			t.Fatalf("%q: %q, %v; not %q", text, second, e, first)
		}
		well++
	}
	again(ordersText)
	again("states a\nvars v=0\nrule r 3\nguard 16 ((v))-(-5)|!!$2\nstep - v:= 1\nstep a v := -(5)+min(v,(1))")
	manyTables(func(source *rand.Rand, x api.Table) {
		text := looseText(source, x)
		again(text)
		again(spoilt(source, text))
	})
	if well < 6000 {
		t.Errorf("only %d were shown again", well)
	}
}

// ---- R1, R3

func TestNothingHandedInIsChanged(t *testing.T) {
	n := 0
	manyTables(func(source *rand.Rand, x api.Table) {
		if n++; n%10 > 0 {
			return
		}
		// Spare room behind what is handed in, too.
		room := append(slices.Clone(x.States), "spare")
		x.States = room[:len(room)-1]
		before := plain(x)
		if _, e := tabular.Show(x); e != api.OK || !same(x, before) || room[len(room)-1] != "spare" {
			t.Fatalf("%v: %v", before, x)
		}
	})
}

// lists are all lists of numbers and instructions that a table has, cut to their whole room.
func lists(t api.Table) ([][]int, [][]api.Ins) {
	numbers, codes := [][]int{t.Start}, [][]api.Ins(nil)
	for _, r := range t.Rules {
		numbers = append(numbers, r.From)
		for _, g := range r.Guards {
			codes = append(codes, g.Test)
		}
		for _, s := range r.Steps {
			for _, set := range s.Sets {
				codes = append(codes, set.Value)
			}
		}
	}
	return numbers, codes
}

// TestAnswersAreNewMemory: each list of an answer is its own, with its spare room; neither another answer nor another list is changed by it.
func TestAnswersAreNewMemory(t *testing.T) {
	const text = "states a b c\nvars v=1 w=2 x=3\nrule r 1 from a b c\nguard 16 v + w\nguard 17 v + w\nstep b v := v + w; w := v + w\nstep c\nrule q 0 from a b c\nguard 16 v\nstep -"
	want, _, _ := tabular.Parse(text)
	numbers, codes := lists(want)
	for i := range numbers {
		x, _, _ := tabular.Parse(text)
		mine, _ := lists(x)
		for j := range mine[i][:cap(mine[i])] {
			mine[i][:cap(mine[i])][j] = 99
		}
		clear(mine[i])
		others, _ := lists(x)
		for j := range others {
			if j != i && !slices.Equal(others[j], numbers[j]) {
				t.Errorf("%v changed %v", mine[i], others[j])
			}
		}
	}
	for i := range codes {
		x, _, _ := tabular.Parse(text)
		_, mine := lists(x)
		clear(mine[i][:cap(mine[i])])
		_, others := lists(x)
		for j := range others {
			if j != i && !slices.Equal(others[j], codes[j]) {
				t.Errorf("%d changed %v", i, others[j])
			}
		}
	}
	if again, _, _ := tabular.Parse(text); !same(again, want) {
		t.Error(again)
	}
	x, _, _ := tabular.Parse(text)
	x.Rules[0].Steps = append(x.Rules[0].Steps, api.Step{To: 7})
	x.Rules[0].Guards = append(x.Rules[0].Guards, api.Guard{Code: 7})
	if !same(api.Table{Rules: x.Rules[1:]}, api.Table{Rules: want.Rules[1:]}) {
		t.Error(x.Rules[1])
	}
}

// TestAnyBytes: rows of bytes, and of pieces, of all sorts are answered as the document says.
func TestAnyBytes(t *testing.T) {
	source := rand.New(rand.NewSource(7))
	for range 20000 {
		text := make([]byte, source.Intn(12))
		for i := range text {
			text[i] = byte(source.Intn(256))
		}
		checkParse(t, string(text))
		checkParse(t, "states a\nvars a=1\nrule r 0\n"+string(text))
		checkParse(t, "states a\nvars a=1\nrule r 0\nstep a a := "+string(text))
	}
	for range 20000 {
		text := "states a b\nvars a=1\n"
		for range source.Intn(12) {
			text += pieces()[source.Intn(len(pieces()))]
		}
		checkParse(t, text)
		checkParse(t, text[source.Intn(len(text)):])
	}
	for _, one := range pieces() {
		text := strings.Repeat(one, 8000/max(1, len(one)))
		checkParse(t, text)
		checkParse(t, "states a\nvars a=1\nrule r 0\nstep a "+text)
	}
}
