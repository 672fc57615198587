package rules_test

import (
	"math"
	"math/rand"
	"reflect"
	"slices"
	"strconv"
	"strings"
	"testing"

	"surmise/api"
	"surmise/expr"
	"surmise/infix"
	"surmise/rules"
)

const top = api.MaxValue

func constant(n int) []api.Ins { return []api.Ins{{Op: api.Const, N: n}} }
func variable(n int) []api.Ins { return []api.Ins{{Op: api.Var, N: n}} }
func argument(n int) []api.Ins { return []api.Ins{{Op: api.Arg, N: n}} }

// sum is a + b.
func sum(a, b []api.Ins) []api.Ins {
	return slices.Concat(a, b, []api.Ins{{Op: api.Add}})
}

// step goes to a state, and sets variables to 1.
func step(to int, vars ...int) api.Step {
	s := api.Step{To: to}
	for _, v := range vars {
		s.Sets = append(s.Sets, api.Set{Var: v, Value: constant(1)})
	}
	return s
}

// path is a rule's steps to some states, one behind the other.
func path(to ...int) []api.Step {
	var l []api.Step
	for _, state := range to {
		l = append(l, step(state))
	}
	return l
}

// orders: states draft, open, done; variables total, many; rules add, close, again.
func orders() api.Table {
	return api.Table{
		States: []string{"draft", "open", "done"}, Vars: []string{"total", "many"}, Start: []int{0, 0},
		Rules: []api.Rule{
			{
				Name: "add", Args: 1, From: []int{0, 1},
				Guards: []api.Guard{{Code: 16, Test: slices.Concat(constant(0), argument(0), []api.Ins{{Op: api.Less}})}, {Code: 17, Test: constant(1)}},
				Steps:  []api.Step{{To: 1, Sets: []api.Set{{Var: 0, Value: sum(variable(0), argument(0))}, {Var: 1, Value: sum(variable(1), constant(1))}}}},
			},
			{Name: "close", From: []int{1}, Steps: []api.Step{{To: 2}}},
			{Name: "again", Steps: []api.Step{{To: -1, Sets: []api.Set{{Var: 1, Value: constant(0)}}}, {To: 0}}},
		},
	}
}

// full: as much of all as there may be.
func full() api.Table {
	t := api.Table{Vars: letters(6), Start: []int{top, -top, 0, 1, -1, 2}}
	for i := range 8 {
		t.States = append(t.States, "state"+strconv.Itoa(i))
	}
	for i := range 12 {
		r := api.Rule{Name: "rule" + strconv.Itoa(i), Args: 4, From: []int{7, 6, 5, 4, 3, 2, 1, 0}}
		for j := range 4 {
			r.Guards = append(r.Guards, api.Guard{Code: 63 - 15*j, Test: argument(j)})
		}
		for j := range 3 {
			s := step(7-j, 5, 4, 3, 2, 1, 0)
			s.Sets[3].Value = ones(31)
			r.Steps = append(r.Steps, s)
		}
		t.Rules = append(t.Rules, r)
	}
	return t
}

// ones: so many instructions, an odd number of them, that come to a sum of ones.
func ones(n int) []api.Ins {
	code := constant(1)
	for len(code) < n {
		code = sum(code, constant(1))
	}
	return code
}

// letters: so many names.
func letters(n int) []string {
	var l []string
	for i := range n {
		l = append(l, string(rune('a'+i)))
	}
	return l
}

// copied is a table that shares nothing with another one.
func copied(t api.Table) api.Table {
	c := api.Table{States: slices.Clone(t.States), Vars: slices.Clone(t.Vars), Start: slices.Clone(t.Start), Rules: slices.Clone(t.Rules)}
	for i := range c.Rules {
		r := &c.Rules[i]
		r.From, r.Guards, r.Steps = slices.Clone(r.From), slices.Clone(r.Guards), slices.Clone(r.Steps)
		for j := range r.Guards {
			r.Guards[j].Test = slices.Clone(r.Guards[j].Test)
		}
		for j := range r.Steps {
			r.Steps[j].Sets = slices.Clone(r.Steps[j].Sets)
			for k := range r.Steps[j].Sets {
				r.Steps[j].Sets[k].Value = slices.Clone(r.Steps[j].Sets[k].Value)
			}
		}
	}
	return c
}

// changed is orders() with something done to it.
func changed(how func(t *api.Table)) api.Table {
	t := orders()
	how(&t)
	return t
}

// unlike: tables that differ much, each of which may be.
func unlike() []api.Table {
	return []api.Table{
		orders(), full(),
		{States: []string{"x"}},
		{States: []string{"a", "abcdefghijklmnopqrstuvwx"}, Vars: []string{"a"}, Start: []int{5}, Rules: []api.Rule{{Name: "a", Steps: path(-1)}}},
		{States: letters(8), Rules: []api.Rule{{Name: "go", From: []int{0}, Steps: path(1, 2)}, {Name: "on", From: []int{1}, Steps: path(3)}}},
	}
}

// ---- Tables of all sorts

// chanceCode: an expression that may be, with so many variables and arguments: a sum.
func chanceCode(source *rand.Rand, vars, args int) []api.Ins {
	code := chanceAtom(source, vars, args)
	for source.Intn(2) == 0 && len(code) < api.MaxCode-2 {
		code = sum(code, chanceAtom(source, vars, args))
	}
	return code
}

func chanceAtom(source *rand.Rand, vars, args int) []api.Ins {
	switch n := source.Intn(3); {
	case n == 0 && vars > 0:
		return variable(source.Intn(vars))
	case n == 1 && args > 0:
		return argument(source.Intn(args))
	}
	return constant(source.Intn(7) - 3)
}

// chanceRule: a rule that may be, in a table with so many states and variables.
func chanceRule(source *rand.Rand, n, states, vars int) api.Rule {
	r := api.Rule{Name: "r" + strconv.Itoa(n), Args: source.Intn(5)}
	if source.Intn(4) > 0 {
		r.From = source.Perm(states)[:1+source.Intn(min(states, 2))]
	}
	for range source.Intn(5) {
		r.Guards = append(r.Guards, api.Guard{Code: 16 + source.Intn(48), Test: chanceCode(source, vars, r.Args)})
	}
	for range 1 + source.Intn(3) {
		s := api.Step{To: source.Intn(states+2) - 2}
		for _, v := range source.Perm(vars)[:source.Intn(vars+1)] {
			s.Sets = append(s.Sets, api.Set{Var: v, Value: chanceCode(source, vars, r.Args)})
		}
		r.Steps = append(r.Steps, s)
	}
	return r
}

// chanceTable: one that may be.
func chanceTable(source *rand.Rand) api.Table {
	t := api.Table{Vars: letters(source.Intn(7)), States: letters(1 + source.Intn(8))}
	for range t.Vars {
		t.Start = append(t.Start, source.Intn(2*top+1)-top)
	}
	for n := range source.Intn(13) {
		t.Rules = append(t.Rules, chanceRule(source, n, len(t.States), len(t.Vars)))
	}
	return t
}

// oneOf: one out of a few.
func oneOf[T any](source *rand.Rand, l ...T) T {
	return l[source.Intn(len(l))]
}

// spoilTable changes something in a table itself; mostly it may not be then.
func spoilTable(source *rand.Rand, t *api.Table) {
	name := oneOf(source, "", "A", "a", "b", "min", "r0", "abcdefghijklmnopqrstuvwxy")
	number := oneOf(source, top, top+1, -top, -top-1, math.MaxInt, math.MinInt)
	switch source.Intn(8) {
	case 0:
		t.States[source.Intn(len(t.States))] = name
	case 1:
		t.States = append(t.States, name)
	case 2:
		t.Vars = append(t.Vars, name)
	case 3:
		t.Start = append(t.Start, number)
	case 4:
		t.Start = t.Start[:len(t.Start)/2]
	case 5:
		t.States = oneOf(source, nil, letters(9), t.States)
	case 6:
		t.Rules = append(t.Rules, t.Rules...)
	case 7:
		for i := range t.Start {
			if source.Intn(3) == 0 {
				t.Start[i] = number
			}
		}
	}
}

// spoilRule does so with a rule.
func spoilRule(source *rand.Rand, r *api.Rule) {
	number := oneOf(source, -1, 0, 1, 2, 3, 4, 5, 6, 7, 8, 9, 15, 16, 63, 64, math.MaxInt, math.MinInt)
	code := oneOf(source, nil, variable(3), argument(2), variable(-1), constant(top+1), sum(constant(1), nil), ones(33), []api.Ins{{Op: 17}})
	s := &r.Steps[source.Intn(len(r.Steps))]
	switch source.Intn(11) {
	case 0:
		r.Name = oneOf(source, "", "r0", "r1", "if", "a-b")
	case 1:
		r.Args = number
	case 2:
		r.From = append(r.From, number)
	case 3:
		r.Guards = append(r.Guards, api.Guard{Code: 16, Test: constant(1)})
	case 4:
		r.Guards = append(r.Guards, api.Guard{Code: number, Test: code})
	case 5:
		r.Guards = append([]api.Guard{{Code: 20, Test: code}}, r.Guards...)
	case 6:
		r.Steps = append(r.Steps, api.Step{To: number})
	case 7:
		s.To = number
	case 8:
		s.Sets = append(s.Sets, api.Set{Var: number, Value: code})
	case 9:
		s.Sets = append(s.Sets, api.Set{Var: number, Value: constant(1)})
	case 10:
		for i := range s.Sets {
			if source.Intn(2) == 0 {
				s.Sets[i].Value = code
			}
		}
	}
}

// manyTables visits ones of all sorts: that may be, and that may not.
func manyTables(visit func(api.Table)) {
	source := rand.New(rand.NewSource(5))
	for range 6000 {
		t := chanceTable(source)
		visit(t)
		for range 1 + source.Intn(3) {
			t = copied(t)
			if len(t.Rules) == 0 || len(t.States) == 0 || source.Intn(5) == 0 {
				if len(t.States) > 0 {
					spoilTable(source, &t)
				}
			} else if r := &t.Rules[source.Intn(len(t.Rules))]; len(r.Steps) > 0 {
				spoilRule(source, r)
				if source.Intn(20) == 0 {
					r.Steps = nil
				}
			}
			visit(t)
		}
	}
}

// manyGood visits those that may be.
func manyGood(visit func(api.Table)) {
	for _, t := range unlike() {
		visit(t)
	}
	source := rand.New(rand.NewSource(6))
	for range 5000 {
		visit(chanceTable(source))
	}
}

// ---- P5.1 (Check)

// found is something that is wrong: its place among all that is asked (rule, part, place in the part, set, rank), and how it is told.
type found struct {
	place []int
	fault api.Fault
}

// finder gathers all that is wrong, in whatever order.
type finder struct {
	list       []found
	rule, part int
}

// add adds an error at a place (below 0: of the part as a whole), and in that of one set, by rank.
func (f *finder) add(so bool, e api.Errno, at, set, rank int) {
	if so {
		place := []int{f.rule, f.part, at, set, rank}
		f.list = append(f.list, found{place, api.Fault{E: e, Rule: f.rule, Part: f.part, At: max(at, 0)}})
	}
}

func (f *finder) names(l []string) {
	for i, s := range l {
		f.add(!infix.Name(s), api.ErrForm, i, 0, 0)
		f.add(slices.Contains(l[:i], s), api.ErrExist, i, 0, 1)
	}
}

func (f *finder) code(code []api.Ins, vars, args, at, set int) {
	_, e := expr.Check(code, vars, args)
	f.add(e != api.OK, e, at, set, 2)
}

func (f *finder) ofRule(t api.Table, n int) {
	r := t.Rules[n]
	f.rule, f.part = n, api.PartName
	f.add(!infix.Name(r.Name), api.ErrForm, -1, 0, 0)
	for _, ahead := range t.Rules[:n] {
		f.add(ahead.Name == r.Name, api.ErrExist, -1, 0, 1)
	}
	f.part = api.PartArgs
	f.add(r.Args < 0 || r.Args > 4, api.ErrRange, -1, 0, 0)
	f.part = api.PartFrom
	for i, s := range r.From {
		f.add(s < 0 || s >= len(t.States), api.ErrRange, i, 0, 0)
		f.add(slices.Contains(r.From[:i], s), api.ErrExist, i, 0, 1)
	}
	f.part = api.PartGuards
	f.add(len(r.Guards) > 4, api.ErrBig, -1, 0, 0)
	for i, g := range r.Guards {
		f.add(g.Code < 16 || g.Code > 63, api.ErrRange, i, 0, 0)
		f.code(g.Test, len(t.Vars), r.Args, i, 0)
	}
	f.part = api.PartSteps
	f.add(len(r.Steps) == 0, api.ErrArg, -1, 0, 0)
	f.add(len(r.Steps) > 3, api.ErrBig, -1, 0, 0)
	for i, s := range r.Steps {
		f.add(s.To >= len(t.States), api.ErrRange, i, -1, 0)
		for j, set := range s.Sets {
			f.add(set.Var < 0 || set.Var >= len(t.Vars), api.ErrRange, i, j, 0)
			same := func(ahead api.Set) bool { return ahead.Var == set.Var }
			f.add(slices.ContainsFunc(s.Sets[:j], same), api.ErrExist, i, j, 1)
			f.code(set.Value, len(t.Vars), r.Args, i, j)
		}
	}
}

// wantedFault: what the document says: all that is wrong is gathered, and the first of it is taken.
func wantedFault(t api.Table) api.Fault {
	f := finder{rule: -1, part: api.PartStates}
	f.add(len(t.States) > 8, api.ErrBig, -1, 0, 0)
	f.add(len(t.States) == 0, api.ErrArg, -1, 0, 0)
	f.names(t.States)
	f.part = api.PartVars
	f.add(len(t.Vars) > 6, api.ErrBig, -1, 0, 0)
	f.names(t.Vars)
	f.part = api.PartStart
	f.add(len(t.Start) != len(t.Vars), api.ErrArg, -1, 0, 0)
	for i, n := range t.Start {
		f.add(n < -top || n > top, api.ErrRange, i, 0, 0)
	}
	f.part = api.PartRules
	f.add(len(t.Rules) > 12, api.ErrBig, -1, 0, 0)
	for n := range t.Rules {
		f.ofRule(t, n)
	}
	if len(f.list) == 0 {
		return api.Fault{}
	}
	return slices.MinFunc(f.list, func(a, b found) int { return slices.Compare(a.place, b.place) }).fault
}

func fault(e api.Errno, rule, part, at int) api.Fault {
	return api.Fault{E: e, Rule: rule, Part: part, At: at}
}

func checkFault(t *testing.T, name string, x api.Table, want api.Fault) {
	t.Helper()
	if got := rules.Check(x); got != want {
		t.Errorf("%s: %v, not %v", name, got, want)
	}
	if also := wantedFault(x); also != want {
		t.Errorf("%s: the other way says %v, not %v", name, also, want)
	}
}

func TestCheckOfTablesThatMayBe(t *testing.T) {
	for _, x := range unlike() {
		checkFault(t, strings.Join(x.States, " "), x, api.Fault{})
	}
	for name, how := range map[string]func(t *api.Table){
		"a variable is called as a state":        func(t *api.Table) { t.Vars[0] = "draft" },
		"a rule is called as a state":            func(t *api.Table) { t.Rules[1].Name = "open" },
		"no rules":                               func(t *api.Table) { t.Rules = nil },
		"no variables":                           func(t *api.Table) { *t = api.Table{States: t.States, Rules: t.Rules[1:2]} },
		"empty lists":                            func(t *api.Table) { t.Rules[1].From, t.Rules[1].Guards = []int{}, []api.Guard{} },
		"for no state twice, and all of them":    func(t *api.Table) { t.Rules[1].From = []int{2, 0, 1} },
		"two guards with one code":               func(t *api.Table) { t.Rules[0].Guards[1].Code = 16 },
		"the least and the greatest code":        func(t *api.Table) { t.Rules[0].Guards[0].Code, t.Rules[0].Guards[1].Code = 16, 63 },
		"a step that stays":                      func(t *api.Table) { t.Rules[1].Steps[0].To = -1 },
		"a step that stays, by the least number": func(t *api.Table) { t.Rules[1].Steps[0].To = math.MinInt },
		"a variable is set in each step":         func(t *api.Table) { t.Rules[1].Steps = []api.Step{step(1, 0), step(2, 0, 1), step(0, 1)} },
		"starts at the ends of the values":       func(t *api.Table) { t.Start = []int{top, -top} },
		"a rule that leads to where it is from":  func(t *api.Table) { t.Rules[1].Steps[0].To = 1 },
	} {
		checkFault(t, name, changed(how), api.Fault{})
	}
}

func TestCheckOfTheTable(t *testing.T) {
	states, vars, start := api.PartStates, api.PartVars, api.PartStart
	for _, c := range []struct {
		name string
		how  func(t *api.Table)
		want api.Fault
	}{
		{"nothing", func(t *api.Table) { *t = api.Table{} }, fault(api.ErrArg, -1, states, 0)},
		{"no states", func(t *api.Table) { t.States = []string{} }, fault(api.ErrArg, -1, states, 0)},
		{"9 states", func(t *api.Table) { t.States = letters(9) }, fault(api.ErrBig, -1, states, 0)},
		{"9 states that are no names", func(t *api.Table) { t.States = make([]string, 9) }, fault(api.ErrBig, -1, states, 0)},
		{"an empty state", func(t *api.Table) { t.States[2] = "" }, fault(api.ErrForm, -1, states, 2)},
		{"a state that is no name", func(t *api.Table) { t.States[1] = "if" }, fault(api.ErrForm, -1, states, 1)},
		{"a state of 25 bytes", func(t *api.Table) { t.States[0] = strings.Repeat("a", 25) }, fault(api.ErrForm, -1, states, 0)},
		{"a state twice", func(t *api.Table) { t.States[2] = "draft" }, fault(api.ErrExist, -1, states, 2)},
		{"a state thrice", func(t *api.Table) { t.States[1], t.States[2] = "draft", "draft" }, fault(api.ErrExist, -1, states, 1)},
		{"no name, ahead of one twice", func(t *api.Table) { t.States = []string{"a", "1", "a"} }, fault(api.ErrForm, -1, states, 1)},
		{"one twice, ahead of no name", func(t *api.Table) { t.States = []string{"a", "a", "1"} }, fault(api.ErrExist, -1, states, 1)},
		{"no name, twice", func(t *api.Table) { t.States = []string{"a", "1", "1"} }, fault(api.ErrForm, -1, states, 1)},

		{"7 variables", func(t *api.Table) { t.Vars = letters(7) }, fault(api.ErrBig, -1, vars, 0)},
		{"7 variables and starts", func(t *api.Table) { t.Vars, t.Start = letters(7), make([]int, 7) }, fault(api.ErrBig, -1, vars, 0)},
		{"a variable that is no name", func(t *api.Table) { t.Vars[1] = "_a" }, fault(api.ErrForm, -1, vars, 1)},
		{"a variable twice", func(t *api.Table) { t.Vars[1] = "total" }, fault(api.ErrExist, -1, vars, 1)},
		{"states are ahead of variables", func(t *api.Table) { t.Vars, t.States[2] = letters(7), "max" }, fault(api.ErrForm, -1, states, 2)},

		{"too few starts", func(t *api.Table) { t.Start = t.Start[:1] }, fault(api.ErrArg, -1, start, 0)},
		{"too many starts", func(t *api.Table) { t.Start = append(t.Start, 0) }, fault(api.ErrArg, -1, start, 0)},
		{"no starts", func(t *api.Table) { t.Start = nil }, fault(api.ErrArg, -1, start, 0)},
		{"a start above all values", func(t *api.Table) { t.Start[1] = top + 1 }, fault(api.ErrRange, -1, start, 1)},
		{"a start below all values", func(t *api.Table) { t.Start[0] = -top - 1 }, fault(api.ErrRange, -1, start, 0)},
		{"starts of all ints", func(t *api.Table) { t.Start = []int{math.MinInt, math.MaxInt} }, fault(api.ErrRange, -1, start, 0)},
		{"too many starts that are no values", func(t *api.Table) { t.Start = []int{top + 1, 0, 0} }, fault(api.ErrArg, -1, start, 0)},
		{"variables are ahead of starts", func(t *api.Table) { t.Start, t.Vars[1] = nil, "total" }, fault(api.ErrExist, -1, vars, 1)},

		{"13 rules", func(t *api.Table) { t.Rules = slices.Repeat(t.Rules[:1], 13) }, fault(api.ErrBig, -1, api.PartRules, 0)},
		{"12 rules of one name", func(t *api.Table) { t.Rules = slices.Repeat(t.Rules[:1], 12) }, fault(api.ErrExist, 1, api.PartName, 0)},
		{"13 rules that are none", func(t *api.Table) { t.Rules = make([]api.Rule, 13) }, fault(api.ErrBig, -1, api.PartRules, 0)},
		{"starts are ahead of rules", func(t *api.Table) { t.Rules, t.Start[1] = make([]api.Rule, 13), top+1 }, fault(api.ErrRange, -1, start, 1)},
	} {
		checkFault(t, c.name, changed(c.how), c.want)
	}
}

func TestCheckOfARule(t *testing.T) {
	name, args, from := api.PartName, api.PartArgs, api.PartFrom
	for _, c := range []struct {
		name string
		how  func(r []api.Rule)
		want api.Fault
	}{
		{"no name", func(r []api.Rule) { r[1].Name = "" }, fault(api.ErrForm, 1, name, 0)},
		{"a name that is none", func(r []api.Rule) { r[0].Name = "min" }, fault(api.ErrForm, 0, name, 0)},
		{"the name of a rule ahead", func(r []api.Rule) { r[2].Name = "close" }, fault(api.ErrExist, 2, name, 0)},
		{"the name of two rules ahead", func(r []api.Rule) { r[1].Name, r[2].Name = "add", "add" }, fault(api.ErrExist, 1, name, 0)},
		{"no names", func(r []api.Rule) { r[1].Name, r[2].Name = "", "" }, fault(api.ErrForm, 1, name, 0)},

		{"5 arguments", func(r []api.Rule) { r[1].Args = 5 }, fault(api.ErrRange, 1, args, 0)},
		{"-1 arguments", func(r []api.Rule) { r[1].Args = -1 }, fault(api.ErrRange, 1, args, 0)},
		{"-1 arguments and a guard", func(r []api.Rule) { r[0].Args = -1 }, fault(api.ErrRange, 0, args, 0)},
		{"ever so many arguments", func(r []api.Rule) { r[2].Args = math.MaxInt }, fault(api.ErrRange, 2, args, 0)},
		{"ever so few arguments", func(r []api.Rule) { r[2].Args = math.MinInt }, fault(api.ErrRange, 2, args, 0)},
		{"names are ahead of arguments", func(r []api.Rule) { r[2].Name, r[2].Args = "add", 5 }, fault(api.ErrExist, 2, name, 0)},

		{"no such state", func(r []api.Rule) { r[0].From[1] = 3 }, fault(api.ErrRange, 0, from, 1)},
		{"a state below 0", func(r []api.Rule) { r[0].From[0] = -1 }, fault(api.ErrRange, 0, from, 0)},
		{"states of all ints", func(r []api.Rule) { r[0].From = []int{2, math.MinInt, math.MaxInt} }, fault(api.ErrRange, 0, from, 1)},
		{"a state twice", func(r []api.Rule) { r[1].From = []int{1, 0, 2, 0} }, fault(api.ErrExist, 1, from, 3)},
		{"a state that is none, twice", func(r []api.Rule) { r[1].From = []int{1, 3, 3} }, fault(api.ErrRange, 1, from, 1)},
		{"a state twice, ahead of one that is none", func(r []api.Rule) { r[1].From = []int{1, 1, 3} }, fault(api.ErrExist, 1, from, 1)},
		{"ever so many states", func(r []api.Rule) { r[1].From = slices.Repeat([]int{2, 1, 0}, 100000) }, fault(api.ErrExist, 1, from, 3)},
		{"arguments are ahead of states", func(r []api.Rule) { r[1].From, r[1].Args = []int{1, 1}, 5 }, fault(api.ErrRange, 1, args, 0)},

		{"a rule ahead of the others", func(r []api.Rule) { r[0].Steps, r[1].Name, r[2].Args = nil, "", 5 }, fault(api.ErrArg, 0, api.PartSteps, 0)},
		{"a rule behind others", func(r []api.Rule) { r[2].Steps[1].To = 3 }, fault(api.ErrRange, 2, api.PartSteps, 1)},
	} {
		checkFault(t, c.name, changed(func(t *api.Table) { c.how(t.Rules) }), c.want)
	}
}

func TestCheckOfGuards(t *testing.T) {
	part := api.PartGuards
	guard := func(code int, test []api.Ins) api.Guard { return api.Guard{Code: code, Test: test} }
	good := guard(16, constant(1))
	for _, c := range []struct {
		name   string
		guards []api.Guard
		want   api.Fault
	}{
		{"4", slices.Repeat([]api.Guard{good}, 4), api.Fault{}},
		{"5", slices.Repeat([]api.Guard{good}, 5), fault(api.ErrBig, 0, part, 0)},
		{"5 that are none", make([]api.Guard, 5), fault(api.ErrBig, 0, part, 0)},
		{"a code below the first", []api.Guard{good, guard(15, constant(1))}, fault(api.ErrRange, 0, part, 1)},
		{"a code above the last", []api.Guard{guard(64, constant(1))}, fault(api.ErrRange, 0, part, 0)},
		{"a code of all verdicts", []api.Guard{good, good, guard(api.Accepted, constant(1))}, fault(api.ErrRange, 0, part, 2)},
		{"codes of all ints", []api.Guard{guard(math.MinInt, nil), guard(math.MaxInt, nil)}, fault(api.ErrRange, 0, part, 0)},
		{"the greatest code", []api.Guard{good, guard(math.MaxInt, constant(1))}, fault(api.ErrRange, 0, part, 1)},
		{"no test", []api.Guard{good, guard(16, nil)}, fault(api.ErrForm, 0, part, 1)},
		{"a long test", []api.Guard{guard(16, ones(33))}, fault(api.ErrBig, 0, part, 0)},
		{"a test with no such instruction", []api.Guard{guard(16, []api.Ins{{Op: 17}})}, fault(api.ErrArg, 0, part, 0)},
		{"a test with too few numbers", []api.Guard{good, good, good, guard(16, []api.Ins{{Op: api.Not}})}, fault(api.ErrShort, 0, part, 3)},
		{"the last variable", []api.Guard{guard(16, variable(1))}, api.Fault{}},
		{"no such variable", []api.Guard{guard(16, variable(2))}, fault(api.ErrRange, 0, part, 0)},
		{"the last argument", []api.Guard{guard(16, argument(0))}, api.Fault{}},
		{"no such argument", []api.Guard{guard(16, argument(1))}, fault(api.ErrRange, 0, part, 0)},
		{"a code is ahead of its test", []api.Guard{guard(15, ones(33))}, fault(api.ErrRange, 0, part, 0)},
		{"a test is ahead of the next code", []api.Guard{guard(16, ones(33)), guard(15, constant(1))}, fault(api.ErrBig, 0, part, 0)},
	} {
		checkFault(t, c.name, changed(func(t *api.Table) { t.Rules[0].Guards = c.guards }), c.want)
		c.want = fault(api.ErrExist, 0, api.PartFrom, 1)
		checkFault(t, c.name+", states ahead of guards", changed(func(t *api.Table) { t.Rules[0].Guards, t.Rules[0].From = c.guards, []int{1, 1} }), c.want)
	}
}

func TestCheckOfSteps(t *testing.T) {
	part := api.PartSteps
	sets := func(l ...api.Set) []api.Step { return []api.Step{{To: 1, Sets: l}} }
	set := func(v int, value []api.Ins) api.Set { return api.Set{Var: v, Value: value} }
	one := constant(1)
	for _, c := range []struct {
		name  string
		steps []api.Step
		want  api.Fault
	}{
		{"none", nil, fault(api.ErrArg, 0, part, 0)}, {"an empty list", []api.Step{}, fault(api.ErrArg, 0, part, 0)},
		{"3", path(1, 2, 0), api.Fault{}}, {"4", path(1, 2, 0, 1), fault(api.ErrBig, 0, part, 0)},
		{"4 that go nowhere", path(3, 3, 3, 3), fault(api.ErrBig, 0, part, 0)},
		{"to the last state", path(2), api.Fault{}}, {"to no state", path(3), fault(api.ErrRange, 0, part, 0)},
		{"to no state at last", path(0, -1, 3), fault(api.ErrRange, 0, part, 2)},
		{"to the greatest int", path(0, math.MaxInt), fault(api.ErrRange, 0, part, 1)},
		{"no variable", sets(set(2, one)), fault(api.ErrRange, 0, part, 0)},
		{"a variable below 0", sets(set(-1, one)), fault(api.ErrRange, 0, part, 0)},
		{"variables of all ints", []api.Step{step(0), step(0, math.MaxInt), step(0, math.MinInt)}, fault(api.ErrRange, 0, part, 1)},
		{"the least int", []api.Step{step(0), step(0, 1), step(0, 0, math.MinInt)}, fault(api.ErrRange, 0, part, 2)},
		{"a variable twice", []api.Step{step(0, 1), step(0, 1, 0, 1)}, fault(api.ErrExist, 0, part, 1)},
		{"ever so many", []api.Step{step(0, slices.Repeat([]int{0, 1}, 100000)...)}, fault(api.ErrExist, 0, part, 0)},
		{"no value", sets(set(0, nil)), fault(api.ErrForm, 0, part, 0)},
		{"a long value", append(sets(), sets(set(1, one), set(0, ones(33)))...), fault(api.ErrBig, 0, part, 1)},
		{"a value with no such instruction", sets(set(1, []api.Ins{{Op: -1}})), fault(api.ErrArg, 0, part, 0)},
		{"a value with too few numbers", sets(set(1, sum(one, nil))), fault(api.ErrShort, 0, part, 0)},
		{"a value that names no variable", sets(set(1, variable(2))), fault(api.ErrRange, 0, part, 0)},
		{"a value that names no argument", sets(set(1, argument(1))), fault(api.ErrRange, 0, part, 0)},
		{"a value that names the last ones", sets(set(1, sum(variable(1), argument(0)))), api.Fault{}},

		{"where it goes is ahead of sets", []api.Step{{To: 3, Sets: []api.Set{set(0, nil)}}}, fault(api.ErrRange, 0, part, 0)},
		{"sets are ahead of the next step", []api.Step{{To: 2, Sets: []api.Set{set(0, nil)}}, step(3)}, fault(api.ErrForm, 0, part, 0)},
		{"the variable is ahead of its value", sets(set(2, nil)), fault(api.ErrRange, 0, part, 0)},
		{"that it is set is ahead of its value", sets(set(0, one), set(0, nil)), fault(api.ErrExist, 0, part, 0)},
		{"a value is ahead of the next variable", sets(set(0, nil), set(2, one)), fault(api.ErrForm, 0, part, 0)},
		{"a value is ahead of the next one that is set", sets(set(0, nil), set(0, one)), fault(api.ErrForm, 0, part, 0)},
	} {
		checkFault(t, c.name, changed(func(t *api.Table) { t.Rules[0].Steps = c.steps }), c.want)
		c.want = fault(api.ErrRange, 0, api.PartGuards, 1)
		checkFault(t, c.name+", guards ahead of steps", changed(func(t *api.Table) { t.Rules[0].Steps, t.Rules[0].Guards[1].Code = c.steps, 15 }), c.want)
	}
}

func TestCheckOfManyTables(t *testing.T) {
	told := map[api.Fault]int{}
	manyTables(func(x api.Table) {
		got, want := rules.Check(x), wantedFault(x)
		if got != want {
			t.Fatalf("%v: %v, not %v", x, got, want)
		}
		told[api.Fault{E: got.E, Part: got.Part}]++
	})
	if len(told) < 27 {
		t.Errorf("only %d sorts of faults", len(told))
	}
	for f, n := range told {
		if n < 20 {
			t.Errorf("%v: only %d", f, n)
		}
	}
}

// ---- P5.2 (For, Find)

// placeEdges: numbers that may mean a state, a rule or a variable, or none.
func placeEdges() []int {
	return []int{math.MinInt, -2, -1, 0, 1, 2, 3, 4, 5, 6, 7, 8, 9, 10, 11, 12, 13, 14, 1 << 40, math.MaxInt}
}

func TestFor(t *testing.T) {
	for _, c := range []struct {
		rule int
		want []int
	}{{0, []int{0, 1}}, {1, []int{1}}, {2, []int{0, 1, 2}}, {3, nil}, {-1, nil}} {
		for _, state := range placeEdges() {
			if got, want := rules.For(orders(), c.rule, state), slices.Contains(c.want, state); got != want {
				t.Errorf("%d for %d: %v", c.rule, state, got)
			}
		}
	}
	if x := (api.Table{}); rules.For(x, 0, 0) {
		t.Error("there is neither rule nor state")
	}
	if x := (api.Table{Rules: []api.Rule{{}}}); rules.For(x, 0, 0) {
		t.Error("there is no state")
	}
}

// TestForOfManyTables: of those that may not be, too.
func TestForOfManyTables(t *testing.T) {
	visit := func(x api.Table) {
		for _, rule := range placeEdges() {
			for _, state := range placeEdges() {
				want := false
				for n, r := range x.Rules {
					for i := range x.States {
						want = want || n == rule && i == state && (len(r.From) == 0 || slices.Contains(r.From, i))
					}
				}
				if got := rules.For(x, rule, state); got != want {
					t.Fatalf("%v: %d for %d: %v", x, rule, state, got)
				}
			}
		}
	}
	n := 0
	manyTables(func(x api.Table) {
		if n++; n%10 == 0 {
			visit(x)
		}
	})
	visit(changed(func(t *api.Table) { t.Rules[0].From, t.States = []int{5, -1, 2}, letters(14) }))
}

func TestFind(t *testing.T) {
	x := orders()
	twice := changed(func(t *api.Table) { t.Rules[0].Name, t.Rules[1].Name, t.Rules[2].Name = "a", "b", "b" })
	empty := changed(func(t *api.Table) { t.Rules[1].Name = "" })
	for _, c := range []struct {
		table api.Table
		name  string
		want  int
	}{
		{x, "add", 0}, {x, "close", 1}, {x, "again", 2}, {x, "", -1}, {x, "ad", -1}, {x, "addx", -1}, {x, "Add", -1}, {x, "draft", -1}, {x, "total", -1},
		{api.Table{}, "add", -1}, {api.Table{}, "", -1}, {twice, "a", 0}, {twice, "b", 1}, {twice, "c", -1}, {empty, "", 1}, {full(), "rule11", 11},
	} {
		if got := rules.Find(c.table, c.name); got != c.want {
			t.Errorf("%q: %d, not %d", c.name, got, c.want)
		}
	}
}

// ---- P5.3 (Reach, Dead)

// leadsTo is where a rule leaves a stream that stands somewhere, if it is for that state.
func leadsTo(r api.Rule, state int) (int, bool) {
	if len(r.From) > 0 && !slices.Contains(r.From, state) {
		return 0, false
	}
	for i := len(r.Steps) - 1; i >= 0; i-- {
		if r.Steps[i].To >= 0 {
			return r.Steps[i].To, true
		}
	}
	return state, true
}

// wantedReach: in as many rounds as there are states all that is one rule farther is added.
func wantedReach(t api.Table) []bool {
	reached := make([]bool, len(t.States))
	reached[0] = true
	for range t.States {
		for state, is := range slices.Clone(reached) {
			for _, r := range t.Rules {
				if to, ok := leadsTo(r, state); is && ok {
					reached[to] = true
				}
			}
		}
	}
	return reached
}

func wantedDead(t api.Table) []int {
	var dead []int
	for n, r := range t.Rules {
		alive := false
		for state, is := range wantedReach(t) {
			_, ok := leadsTo(r, state)
			alive = alive || is && ok
		}
		if !alive {
			dead = append(dead, n)
		}
	}
	return dead
}

// roads: a table of so many states, and rules that go from some states (none: from all) on some paths.
func roads(states int, rules ...[2][]int) api.Table {
	t := api.Table{States: letters(states)}
	for i, r := range rules {
		t.Rules = append(t.Rules, api.Rule{Name: "go" + strconv.Itoa(i), From: r[0], Steps: path(r[1]...)})
	}
	return t
}

func TestReachAndDead(t *testing.T) {
	type road = [2][]int
	all := []int(nil)
	for _, c := range []struct {
		table api.Table
		reach string // the states that can be reached
		dead  []int
	}{
		{roads(3, road{{0}, {1}}, road{{2}, {0}}), "ab", []int{1}},
		{roads(1), "a", nil}, {roads(8), "a", nil}, {orders(), "abc", nil}, {full(), "af", nil},
		{roads(2, road{{1}, {0}}), "a", []int{0}}, {roads(2, road{{1}, {1}}, road{{1}, {0}}), "a", []int{0, 1}},
		{roads(3, road{all, {2}}), "ac", nil}, {roads(3, road{{1, 0}, {2}}, road{{2, 1}, {1}}), "abc", nil},

		// Rules that stand behind those that they need, or ahead.
		{roads(4, road{{2}, {3}}, road{{1}, {2}}, road{{0}, {1}}), "abcd", nil}, {roads(4, road{{0}, {1}}, road{{1}, {2}}, road{{2}, {3}}), "abcd", nil},
		{roads(8, road{{6}, {7}}, road{{5}, {6}}, road{{4}, {5}}, road{{3}, {4}}, road{{2}, {3}}, road{{1}, {2}}, road{{0}, {1}}), "abcdefgh", nil},

		// Where states lead back to others, and to themselves.
		{roads(4, road{{0}, {1}}, road{{1}, {0}}, road{{1}, {1}}, road{{2}, {3}}, road{{3}, {2}}), "ab", []int{3, 4}},

		// The last step that goes somewhere counts alone: a stream never waits between the steps.
		{roads(4, road{{0}, {1, 2}}, road{{1}, {3}}), "ac", []int{1}}, {roads(4, road{{0}, {1, 2, 0}}), "a", nil},
		{roads(3, road{{0}, {1, -1}}, road{{1}, {-1, 2}}), "abc", nil}, {roads(4, road{{0}, {3, 2, -1}}), "ac", nil},
		{roads(2, road{{0}, {-1}}, road{{1}, {0}}), "a", []int{1}}, {roads(3, road{{0}, {2}}, road{all, {-1, -2, math.MinInt}}), "ac", nil},
		{roads(3, road{all, {-1}}, road{{2}, {-1}}), "a", []int{1}},
	} {
		got, want := rules.Reach(c.table), make([]bool, len(c.table.States))
		for i := range want {
			want[i] = strings.Contains(c.reach, string(rune('a'+i)))
		}
		if !slices.Equal(got, want) {
			t.Errorf("%v: %v, not %v", c.table, got, want)
		}
		if got := rules.Dead(c.table); !slices.Equal(got, c.dead) {
			t.Errorf("%v: %v, not %v", c.table, got, c.dead)
		}
	}
}

// TestReachWhateverGuardsSay: a guard that always refuses closes no road, and no value on the way does.
func TestReachWhateverGuardsSay(t *testing.T) {
	x := orders()
	x.Rules[0].Guards[0].Test = constant(0)
	x.Rules[1].Steps[0].Sets = []api.Set{{Value: append(slices.Concat(constant(top), constant(top)), api.Ins{Op: api.Mul})}}
	if got := rules.Reach(x); !slices.Equal(got, []bool{true, true, true}) {
		t.Error(got)
	}
}

func TestReachAndDeadOfManyTables(t *testing.T) {
	unreached, dead := 0, 0
	manyGood(func(x api.Table) {
		reach := rules.Reach(x)
		if want := wantedReach(x); !slices.Equal(reach, want) {
			t.Fatalf("%v: %v, not %v", x, reach, want)
		}
		l := rules.Dead(x)
		if want := wantedDead(x); !slices.Equal(l, want) {
			t.Fatalf("%v: %v, not %v", x, l, want)
		}
		if slices.Contains(reach, false) {
			unreached++
		}
		if len(l) > 0 {
			dead++
		}
	})
	if unreached < 1000 || dead < 1000 {
		t.Errorf("only %d with states that cannot be reached, %d with rules that are dead", unreached, dead)
	}
}

// TestNothingOfTablesThatMayNotBe: whatever is wrong, at the beginning or the end.
func TestNothingOfTablesThatMayNotBe(t *testing.T) {
	none := func(x api.Table) {
		if l, d := rules.Reach(x), rules.Dead(x); len(l)+len(d) > 0 {
			t.Fatalf("%v: %v, %v", x, l, d)
		}
		for _, n := range placeEdges() {
			if r, w := rules.Reads(x, n), rules.Writes(x, n); len(r)+len(w) > 0 {
				t.Fatalf("%v: %d: %v, %v", x, n, r, w)
			}
		}
	}
	none(api.Table{})
	none(changed(func(t *api.Table) { t.States[2] = "" }))
	none(changed(func(t *api.Table) { t.Start = nil }))
	none(changed(func(t *api.Table) { t.Rules[2].Steps[1].To = 3 }))
	none(changed(func(t *api.Table) { t.Rules[0].Steps[0].Sets[0].Value = variable(2) }))
	none(changed(func(t *api.Table) { t.Rules[1].From = []int{-1} }))
	bad := 0
	manyTables(func(x api.Table) {
		if wantedFault(x) != (api.Fault{}) {
			bad++
			none(x)
		}
	})
	if bad < 6000 {
		t.Errorf("only %d", bad)
	}
}

// ---- P5.4 (Reads, Writes)

func TestReadsAndWrites(t *testing.T) {
	x := api.Table{States: []string{"x"}, Vars: letters(4), Start: make([]int, 4), Rules: []api.Rule{
		{Name: "none", Args: 4, Guards: []api.Guard{{Code: 16, Test: argument(3)}}, Steps: path(0)},
		{Name: "guard", Guards: []api.Guard{{Code: 16, Test: constant(1)}, {Code: 16, Test: sum(variable(3), variable(1))}}, Steps: path(0)},
		{Name: "value", Steps: []api.Step{{Sets: []api.Set{{Var: 2, Value: constant(0)}, {Var: 1, Value: sum(constant(3), variable(0))}}}}},
		{Name: "steps", Steps: []api.Step{{Sets: []api.Set{{Var: 0, Value: constant(0)}}}, {Sets: nil}, {To: -1, Sets: []api.Set{{Var: 3, Value: variable(2)}}}}},
		{Name: "both", Guards: []api.Guard{{Code: 16, Test: variable(0)}}, Steps: []api.Step{{Sets: []api.Set{{Var: 0, Value: variable(3)}}}}},
		{Name: "stays", Steps: []api.Step{{Sets: []api.Set{{Var: 3, Value: variable(3)}}}}},
	}}
	for n, want := range [][2]string{{"", ""}, {"bd", ""}, {"a", "bc"}, {"c", "ad"}, {"ad", "a"}, {"d", "d"}} {
		for i, got := range [][]bool{rules.Reads(x, n), rules.Writes(x, n)} {
			flags := make([]bool, 4)
			for v := range flags {
				flags[v] = strings.Contains(want[i], x.Vars[v])
			}
			if !slices.Equal(got, flags) {
				t.Errorf("%d of %s: %v, not %v", i, x.Rules[n].Name, got, flags)
			}
		}
	}
	for _, n := range []int{-1, 6, 7, math.MinInt, math.MaxInt} {
		if r, w := rules.Reads(x, n), rules.Writes(x, n); len(r)+len(w) > 0 {
			t.Errorf("%d: %v, %v", n, r, w)
		}
	}
}

// names tells whether an instruction that puts a variable is in an expression.
func names(code []api.Ins, v int) bool {
	return slices.Contains(code, api.Ins{Op: api.Var, N: v})
}

func TestReadsAndWritesOfManyTables(t *testing.T) {
	manyGood(func(x api.Table) {
		for n, r := range x.Rules {
			read, written := rules.Reads(x, n), rules.Writes(x, n)
			if len(read) != len(x.Vars) || len(written) != len(x.Vars) {
				t.Fatalf("%v: %d: %v, %v", x, n, read, written)
			}
			for v := range x.Vars {
				reads := slices.ContainsFunc(r.Guards, func(g api.Guard) bool { return names(g.Test, v) })
				writes := false
				for _, s := range r.Steps {
					for _, set := range s.Sets {
						reads = reads || names(set.Value, v)
						writes = writes || set.Var == v
					}
				}
				if read[v] != reads || written[v] != writes {
					t.Fatalf("%v: %d, %d: %v, %v", x, n, v, read, written)
				}
			}
		}
	})
}

// ---- P5.5 (left out)

func TestLeftOut(t *testing.T) {
	fewer := 0
	manyGood(func(x api.Table) {
		reach := rules.Reach(x)
		for n := range x.Rules {
			less := copied(x)
			less.Rules = slices.Delete(less.Rules, n, n+1)
			if f := rules.Check(less); f != (api.Fault{}) {
				t.Fatalf("%v without %d: %v", x, n, f)
			}
			left := rules.Reach(less)
			if len(left) != len(x.States) {
				t.Fatalf("%v without %d: %v", x, n, left)
			}
			for state, is := range left {
				if is && !reach[state] {
					t.Fatalf("%v without %d: %v, not %v", x, n, left, reach)
				}
			}
			if !slices.Equal(left, reach) {
				fewer++
			}
		}
	})
	if fewer < 1000 {
		t.Errorf("only %d reach fewer states", fewer)
	}
}

// ---- P5.6 (closed)

func TestClosed(t *testing.T) {
	manyGood(func(x api.Table) {
		reach := rules.Reach(x)
		if len(reach) != len(x.States) || !reach[0] {
			t.Fatalf("%v: %v", x, reach)
		}
		for state, is := range reach {
			for n, r := range x.Rules {
				if to, _ := leadsTo(r, state); is && rules.For(x, n, state) && !reach[to] {
					t.Fatalf("%v: rule %d leads from %d to %d: %v", x, n, state, to, reach)
				}
			}
		}
	})
}

// ---- What holds everywhere

// callAll calls each function, with numbers of all sorts.
func callAll(x api.Table) {
	rules.Check(x)
	rules.Find(x, "a")
	rules.Reach(x)
	rules.Dead(x)
	for _, n := range placeEdges() {
		rules.For(x, n, 0)
		rules.For(x, 0, n)
		rules.Reads(x, n)
		rules.Writes(x, n)
	}
}

func TestNothingHandedInIsChanged(t *testing.T) {
	n := 0
	manyTables(func(x api.Table) {
		if n++; n%10 > 0 {
			return
		}
		// Spare room behind what is handed in, too.
		room := append(slices.Clone(x.Rules), api.Rule{Name: "spare"})
		from := []int(nil)
		if len(x.Rules) > 0 {
			from = append(slices.Clone(x.Rules[0].From), 77)
			room[0].From = from[:len(from)-1]
		}
		given := x
		given.Rules = room[:len(x.Rules)]
		before := copied(given)
		callAll(given)
		if !reflect.DeepEqual(copied(given), before) || room[len(x.Rules)].Name != "spare" || len(from) > 0 && from[len(from)-1] != 77 {
			t.Fatalf("%v: %v", before, given)
		}
	})
}

// TestAnswersAreNewMemory: what is done to one answer changes neither another one nor the table.
func TestAnswersAreNewMemory(t *testing.T) {
	turn := func(l []bool) {
		l = l[:cap(l)]
		for i := range l {
			l[i] = !l[i]
		}
	}
	for _, x := range unlike() {
		before := copied(x)
		for _, ask := range []func() []bool{
			func() []bool { return rules.Reach(x) },
			func() []bool { return rules.Reads(x, 0) },
			func() []bool { return rules.Writes(x, 0) },
		} {
			first := ask()
			want := slices.Clone(first)
			turn(first)
			if got := ask(); !slices.Equal(got, want) || !reflect.DeepEqual(x, before) {
				t.Errorf("%v: %v, not %v", x, got, want)
			}
		}
		dead := rules.Dead(x)
		want := slices.Clone(dead)
		for i := range dead {
			dead[i] = 99
		}
		if got := rules.Dead(x); !slices.Equal(got, want) {
			t.Errorf("%v: %v, not %v", x, got, want)
		}
	}
}
