package decide_test

import (
	"math"
	"math/rand"
	"reflect"
	"slices"
	"strconv"
	"testing"

	"surmise/api"
	"surmise/decide"
	"surmise/expr"
	"surmise/rules"
	"surmise/tabular"
)

const top = api.MaxValue

// table is what a text says; it may be.
func table(text string) api.Table {
	x, at, e := tabular.Parse(text)
	if e != api.OK {
		panic("line " + strconv.Itoa(at) + ": " + e.Error())
	}
	if f := rules.Check(x); f != (api.Fault{}) {
		panic(f.E.Error())
	}
	return x
}

// orders: rules add (0) and close (1).
func orders() api.Table {
	return table(`states draft open done
vars total=0 many=0
rule add 1 from draft open
guard 16 0 < $0
step open total := total + $0; many := many + 1
rule close 0 from open
step done
`)
}

// rounds: rules swap (0), chain (1), far (2), guarded (3), late (4).
func rounds() api.Table {
	return table(`states a b c
vars x=1 y=-2
rule swap 0
step - x := y; y := x
rule chain 2 from a b
guard 20 $0
step b x := x + $0
step - y := x; x := y
step c x := x * $1
rule far 1 from c a
step c
step a
step b x := $0
rule guarded 4
guard 16 $0
guard 63 $1 * $1
guard 40 $2
guard 16 $3 + $3
step -
rule late 1
guard 30 x * 1
step b x := x + 1
step c x := x + 1; y := x + $0
`)
}

// full: as much of all as there may be.
func full() api.Table {
	x := api.Table{Start: []int{top, -top, 0, 1, -1, 2}, Vars: []string{"a", "b", "c", "d", "e", "f"}}
	for i := range api.MaxStates {
		x.States = append(x.States, "state"+strconv.Itoa(i))
	}
	for i := range api.MaxRules {
		r := api.Rule{Name: "rule" + strconv.Itoa(i), Args: api.MaxArgs, From: []int{7, 6, 5, 4, 3, 2, 1, 0}}
		for j := range api.MaxGuards {
			r.Guards = append(r.Guards, api.Guard{Code: api.LastGuard - j, Test: argument(j)})
		}
		for j := range api.MaxSteps {
			step := api.Step{To: 7 - j}
			for v := range x.Vars {
				step.Sets = append(step.Sets, api.Set{Var: v, Value: variable((v + 1) % len(x.Vars))})
			}
			r.Steps = append(r.Steps, step)
		}
		x.Rules = append(x.Rules, r)
	}
	return x
}

func constant(n int) []api.Ins { return []api.Ins{{Op: api.Const, N: n}} }
func variable(n int) []api.Ins { return []api.Ins{{Op: api.Var, N: n}} }
func argument(n int) []api.Ins { return []api.Ins{{Op: api.Arg, N: n}} }

// good: tables that differ much, each of which may be.
func good() []api.Table {
	return []api.Table{
		orders(), rounds(), full(), {States: []string{"x"}}, table("states a b\nvars\nrule go 0\nstep b\n"),
		{States: []string{"a"}, Vars: []string{}, Start: []int{}, Rules: []api.Rule{{Name: "a", Steps: []api.Step{{To: math.MinInt}}}}},
	}
}

// bad: tables that may not be; what is wrong stands at the beginning, or at the end.
func bad() []api.Table {
	l := []api.Table{{}, {Vars: []string{"a"}, Start: []int{1}}}
	for _, spoil := range []func(x *api.Table){
		func(x *api.Table) { x.States = nil },
		func(x *api.Table) { x.States[2] = "" },
		func(x *api.Table) { x.Vars[1] = "total" },
		func(x *api.Table) { x.Start = []int{0} },
		func(x *api.Table) { x.Start[1] = top + 1 },
		func(x *api.Table) { x.Start[0] = math.MinInt },
		func(x *api.Table) { x.Rules[1].Name = "add" },
		func(x *api.Table) { x.Rules[0].Args = 0 },
		func(x *api.Table) { x.Rules[1].Args = 5 },
		func(x *api.Table) { x.Rules[1].From = []int{1, 3} },
		func(x *api.Table) { x.Rules[0].Guards[0].Code = 15 },
		func(x *api.Table) { x.Rules[0].Guards[0].Test = nil },
		func(x *api.Table) { x.Rules[0].Steps = nil },
		func(x *api.Table) { x.Rules[1].Steps[0].To = 3 },
		func(x *api.Table) { x.Rules[0].Steps[0].Sets[1].Var = 2 },
		func(x *api.Table) { x.Rules[0].Steps[0].Sets[1].Var = -1 },
		func(x *api.Table) { x.Rules[0].Steps[0].Sets[0].Value = argument(1) },
	} {
		x := orders()
		spoil(&x)
		l = append(l, x)
	}
	return l
}

// edges: numbers at which something changes.
func edges() []int {
	return []int{math.MinInt, math.MinInt + 1, -top - 1, -top, -top + 1, -2, -1, 0, 1, 2, 3, 5, 8, 12, top - 1, top, top + 1, math.MaxInt - 1, math.MaxInt}
}

func isValue(n int) bool { return n >= -top && n <= top }

// ---- Tables, states and commands of all sorts

func oneOf[T any](source *rand.Rand, l ...T) T {
	return l[source.Intn(len(l))]
}

// chanceCode: an expression that may be, with so many variables and arguments.
func chanceCode(source *rand.Rand, vars, args, depth int) []api.Ins {
	if depth > 0 && source.Intn(2) == 0 {
		op, operands := api.Add+source.Intn(10), 2
		switch source.Intn(6) {
		case 0:
			op, operands = api.Neg+source.Intn(2), 1
		case 1:
			op, operands = api.If, 3
		}
		var code []api.Ins
		for range operands {
			code = append(code, chanceCode(source, vars, args, depth-1)...)
		}
		return append(code, api.Ins{Op: op})
	}
	switch n := source.Intn(5); {
	case n < 2 && vars > 0:
		return variable(source.Intn(vars))
	case n < 4 && args > 0:
		return argument(source.Intn(args))
	}
	return constant(oneOf(source, 0, 1, 1, 2, -1, 3, 1<<20, top, -top))
}

// chanceTable: one that may be.
func chanceTable(source *rand.Rand) api.Table {
	states, vars := 1+source.Intn(api.MaxStates), source.Intn(api.MaxVars+1)
	var x api.Table
	for i := range states {
		x.States = append(x.States, "s"+strconv.Itoa(i))
	}
	for i := range vars {
		x.Vars = append(x.Vars, "v"+strconv.Itoa(i))
		x.Start = append(x.Start, chanceValue(source))
	}
	for i := range 1 + source.Intn(api.MaxRules) {
		r := api.Rule{Name: "r" + strconv.Itoa(i), Args: source.Intn(api.MaxArgs + 1)}
		if source.Intn(2) == 0 {
			r.From = source.Perm(states)[:1+source.Intn(states)]
		}
		for range source.Intn(api.MaxGuards + 1) {
			r.Guards = append(r.Guards, api.Guard{Code: api.FirstGuard + source.Intn(48), Test: chanceCode(source, vars, r.Args, 2)})
		}
		for range 1 + source.Intn(api.MaxSteps) {
			step := api.Step{To: source.Intn(states+2) - 2}
			for _, v := range source.Perm(vars)[:source.Intn(vars+1)] {
				step.Sets = append(step.Sets, api.Set{Var: v, Value: chanceCode(source, vars, r.Args, 2)})
			}
			r.Steps = append(r.Steps, step)
		}
		x.Rules = append(x.Rules, r)
	}
	return x
}

// chanceValue: mostly a small one.
func chanceValue(source *rand.Rand) int {
	return oneOf(source, 0, 1, -1, 2, 3, 7, 100, -5, source.Intn(2*top+1)-top, top, -top)
}

// chanceState: mostly one that may be.
func chanceState(source *rand.Rand, x api.Table) api.State {
	s := api.State{At: source.Intn(max(len(x.States), 1)), Version: oneOf(source, 0, 1, 2, 77, top-2, top-1, top)}
	for range x.Vars {
		s.Vars = append(s.Vars, chanceValue(source))
	}
	switch source.Intn(30) {
	case 0:
		s.At = oneOf(source, edges()...)
	case 1:
		s.Version = oneOf(source, edges()...)
	case 2:
		s.Vars = append(s.Vars, 0)
	case 3:
		s.Vars = s.Vars[:len(s.Vars)/2]
	case 4:
		for i := range s.Vars {
			s.Vars[i] = oneOf(source, edges()...)
		}
	}
	return s
}

// chanceCmd: mostly one that is refused by guards and steps alone.
func chanceCmd(source *rand.Rand, x api.Table, s api.State) api.Cmd {
	c := api.Cmd{Rule: source.Intn(max(len(x.Rules), 1)), Expect: oneOf(source, -1, -1, s.Version, math.MinInt)}
	if c.Rule < len(x.Rules) {
		for range min(x.Rules[c.Rule].Args, 20) {
			c.Args = append(c.Args, chanceValue(source))
		}
	}
	switch source.Intn(24) {
	case 0:
		c.Rule = oneOf(source, edges()...)
	case 1:
		c.Args = append(c.Args, 1)
	case 2:
		c.Args = c.Args[:len(c.Args)/2]
	case 3:
		for i := range c.Args {
			c.Args[i] = oneOf(source, edges()...)
		}
	case 4, 5:
		c.Expect = oneOf(source, edges()...)
	}
	return c
}

// spoil changes something in a table; mostly it may not be then.
func spoil(source *rand.Rand, x *api.Table) {
	n := oneOf(source, edges()...)
	r := &x.Rules[source.Intn(len(x.Rules))]
	code := oneOf(source, nil, variable(n), argument(n), constant(n), []api.Ins{{Op: n}}, append(constant(1), constant(2)...))
	switch source.Intn(10) {
	case 0:
		x.States = oneOf(source, nil, append(x.States, x.States[0]), x.States[:len(x.States)/2])
	case 1:
		x.Vars = oneOf(source, nil, append(x.Vars, "v"), x.Vars[:len(x.Vars)/2])
	case 2:
		x.Start = oneOf(source, nil, append(x.Start, n), x.Start[:len(x.Start)/2])
	case 3:
		x.Rules = append(x.Rules, *r)
	case 4:
		r.Args = n
	case 5:
		r.From = append(r.From, n)
	case 6:
		r.Guards = append(r.Guards, api.Guard{Code: n, Test: code})
	case 7:
		r.Guards = append([]api.Guard{{Code: 16, Test: code}}, r.Guards...)
	case 8:
		r.Steps = append(r.Steps, api.Step{To: n})
	case 9:
		s := &r.Steps[source.Intn(len(r.Steps))]
		s.Sets = append(s.Sets, api.Set{Var: n, Value: code})
	}
}

// manyCommands visits tables that may be, states and commands of all sorts.
func manyCommands(visit func(x api.Table, s api.State, c api.Cmd)) {
	source := rand.New(rand.NewSource(7))
	for range 1000 {
		x := chanceTable(source)
		for range 40 {
			s := chanceState(source, x)
			visit(x, s, chanceCmd(source, x, s))
		}
	}
}

// ---- What the document says, put down once more

func wantedRight(x api.Table, s api.State) bool {
	if rules.Check(x) != (api.Fault{}) {
		return false
	}
	for _, n := range s.Vars {
		if !isValue(n) {
			return false
		}
	}
	return s.At >= 0 && s.At < len(x.States) && s.Version >= 0 && s.Version <= 1<<40 && len(s.Vars) == len(x.Vars)
}

func wantedDecide(x api.Table, s api.State, c api.Cmd) ([]api.Event, int) {
	if rules.Check(x) != (api.Fault{}) {
		return nil, 1
	}
	if !wantedRight(x, s) {
		return nil, 3
	}
	if c.Rule < 0 || c.Rule > len(x.Rules)-1 {
		return nil, 1
	}
	r := x.Rules[c.Rule]
	if len(c.Args) != r.Args || slices.ContainsFunc(c.Args, func(n int) bool { return !isValue(n) }) {
		return nil, 2
	}
	if len(r.From) > 0 && !slices.Contains(r.From, s.At) {
		return nil, 3
	}
	if c.Expect >= 0 && c.Expect != s.Version {
		return nil, 4
	}
	for _, g := range r.Guards {
		n, e := expr.Eval(g.Test, s.Vars, c.Args)
		if e != api.OK {
			return nil, 5
		}
		if n == 0 {
			return nil, g.Code
		}
	}
	return wantedEvents(r.Steps, s, c.Args)
}

func wantedEvents(steps []api.Step, s api.State, args []int) ([]api.Event, int) {
	l := []api.Event{{At: s.At, Vars: s.Vars}}
	for _, step := range steps {
		ahead := l[len(l)-1]
		behind := api.Event{At: ahead.At, Vars: slices.Clone(ahead.Vars)}
		for _, set := range step.Sets {
			n, e := expr.Eval(set.Value, ahead.Vars, args)
			if e != api.OK {
				return nil, 5
			}
			behind.Vars[set.Var] = n
		}
		if step.To >= 0 {
			behind.At = step.To
		}
		l = append(l, behind)
	}
	return l[1:], 0
}

func sameEvents(a, b []api.Event) bool {
	return slices.EqualFunc(a, b, func(e, f api.Event) bool { return e.At == f.At && slices.Equal(e.Vars, f.Vars) })
}

func sameState(a, b api.State) bool {
	return a.At == b.At && a.Version == b.Version && slices.Equal(a.Vars, b.Vars)
}

func checkDecide(t *testing.T, x api.Table, s api.State, c api.Cmd, events []api.Event, code int) {
	t.Helper()
	if l, n := decide.Decide(x, s, c); n != code || !sameEvents(l, events) {
		t.Errorf("%v, %v: %v, %d; not %v, %d", s, c, l, n, events, code)
	}
}

// event, state and cmd: where a stream stands behind it; where one stands; a rule with arguments, of any version.
func event(at int, vars ...int) api.Event { return api.Event{At: at, Vars: vars} }
func state(at, version int, vars ...int) api.State {
	return api.State{At: at, Version: version, Vars: vars}
}
func cmd(rule int, args ...int) api.Cmd { return api.Cmd{Rule: rule, Args: args, Expect: -1} }

func expecting(c api.Cmd, version int) api.Cmd {
	c.Expect = version
	return c
}

// ---- P7.1 (New, Right)

func TestNew(t *testing.T) {
	for _, x := range good() {
		if s := decide.New(x); s.At != 0 || s.Version != 0 || !slices.Equal(s.Vars, x.Start) {
			t.Errorf("%v: %v", x, s)
		}
	}
	if s := decide.New(full()); !slices.Equal(s.Vars, []int{top, -top, 0, 1, -1, 2}) {
		t.Error(s)
	}
	for _, x := range bad() {
		if s := decide.New(x); !reflect.DeepEqual(s, api.State{}) {
			t.Errorf("%v: %v", x, s)
		}
	}
}

func TestRight(t *testing.T) {
	for _, x := range good() {
		if !decide.Right(x, decide.New(x)) {
			t.Errorf("%v: where a stream begins may be", x)
		}
	}
	x := orders()
	for _, n := range edges() {
		for _, c := range []struct {
			s    api.State
			want bool
		}{
			{state(n, 0, 0, 0), n >= 0 && n <= 2}, {state(1, n, 0, 0), n >= 0 && n <= 1<<40},
			{state(1, 7, n, 0), isValue(n)}, {state(1, 7, 0, n), isValue(n)},
		} {
			if got := decide.Right(x, c.s); got != c.want {
				t.Errorf("%v: %v", c.s, got)
			}
		}
	}
	for n := range 4 {
		if s := state(2, 5, make([]int, n)...); decide.Right(x, s) != (n == 2) {
			t.Errorf("%d variables: %v", n, n != 2)
		}
	}
	none := table("states a\nvars\n")
	if !decide.Right(none, api.State{}) || !decide.Right(none, api.State{Vars: []int{}}) || decide.Right(none, state(0, 0, 0)) {
		t.Error("a table without variables")
	}
	if !decide.Right(full(), state(7, top, top, -top, top, -top, 0, top)) {
		t.Error("the greatest of all")
	}
}

// TestRightOfOthers: of a table that may not be no state may be, nor the zero one, nor one that fits it.
func TestRightOfOthers(t *testing.T) {
	for _, x := range bad() {
		for n := range 4 {
			if s := state(0, 0, make([]int, n)...); decide.Right(x, s) {
				t.Errorf("%v: %v", x, s)
			}
		}
		if s := (api.State{Vars: slices.Clone(x.Start)}); decide.Right(x, s) {
			t.Errorf("%v: %v", x, s)
		}
	}
}

func TestRightOfManyStates(t *testing.T) {
	wrong := 0
	manyCommands(func(x api.Table, s api.State, _ api.Cmd) {
		got := decide.Right(x, s)
		if got != wantedRight(x, s) {
			t.Fatalf("%v: %v: %v", x, s, got)
		}
		if !got {
			wrong++
		}
	})
	if wrong < 2000 {
		t.Errorf("only %d may not be", wrong)
	}
}

// ---- P7.2 (Decide)

// TestDecideExamples: those of the document.
func TestDecideExamples(t *testing.T) {
	x := orders()
	checkDecide(t, x, decide.New(x), cmd(0, 5), []api.Event{event(1, 5, 1)}, api.Accepted)
	checkDecide(t, x, decide.New(x), cmd(0, 0), nil, 16)
	checkDecide(t, x, decide.New(x), cmd(1), nil, api.WrongState)
}

func TestDecideAccepted(t *testing.T) {
	x, y := orders(), rounds()
	for _, c := range []struct {
		table  api.Table
		s      api.State
		c      api.Cmd
		events []api.Event
	}{
		{x, state(1, 3, 7, 2), cmd(0, 3), []api.Event{event(1, 10, 3)}},
		{x, state(1, 3, 7, 2), cmd(1), []api.Event{event(2, 7, 2)}},
		{x, state(1, top, 7, 2), cmd(1), []api.Event{event(2, 7, 2)}},
		{x, state(1, 3, -top, top-1), cmd(0, top), []api.Event{event(1, 0, top)}},

		// A step's values are all by the variables ahead of it; what it doesn't set stays.
		{y, state(0, 0, 1, -2), cmd(0), []api.Event{event(0, -2, 1)}},
		{y, state(2, 9, top, -top), cmd(0), []api.Event{event(2, -top, top)}},
		{y, state(1, 2, 4, 9), cmd(3, 1, 1, 1, 1), []api.Event{event(1, 4, 9)}},

		// Each step is on top of those ahead of it; each one's event tells the state and all variables.
		{y, state(0, 0, 1, -2), cmd(1, 10, 3), []api.Event{event(1, 11, -2), event(1, -2, 11), event(2, -6, 11)}},
		{y, state(0, 1, 5, 6), cmd(2, 8), []api.Event{event(2, 5, 6), event(0, 5, 6), event(1, 8, 6)}},
		{y, state(2, 1, 5, 6), cmd(2, -top), []api.Event{event(2, 5, 6), event(0, 5, 6), event(1, -top, 6)}},
		{y, state(2, 1, 5, 6), cmd(4, 100), []api.Event{event(1, 6, 6), event(2, 7, 106)}},

		// Where a stream stands between the steps is asked by nobody: the rule is for where it began.
		{y, state(2, 1, 0, 0), cmd(2, 0), []api.Event{event(2, 0, 0), event(0, 0, 0), event(1, 0, 0)}},

		// Guards let through what is not 0, below it too.
		{y, state(0, 0, 0, 0), cmd(3, -1, -1, -top, top/2), []api.Event{event(0, 0, 0)}},

		// A step that stays does so, however far below 0 its state is.
		{good()[5], state(0, 0), cmd(0), []api.Event{event(0)}},
		{good()[4], state(1, 5), cmd(0), []api.Event{event(1)}},
		{full(), state(3, 0, 1, 2, 3, 4, 5, 6), cmd(11, 1, 1, 1, 1), []api.Event{event(7, 2, 3, 4, 5, 6, 1), event(6, 3, 4, 5, 6, 1, 2), event(5, 4, 5, 6, 1, 2, 3)}},
	} {
		checkDecide(t, c.table, c.s, c.c, c.events, api.Accepted)
	}
}

func TestDecideRefused(t *testing.T) {
	x, y := orders(), rounds()
	open := state(1, 3, 7, 2)
	for _, c := range []struct {
		table api.Table
		s     api.State
		c     api.Cmd
		code  int
	}{
		{x, state(3, 3, 7, 2), cmd(1), api.WrongState}, {x, state(-1, 3, 7, 2), cmd(1), api.WrongState},
		{x, state(1, -1, 7, 2), cmd(1), api.WrongState}, {x, state(1, top+1, 7, 2), cmd(1), api.WrongState},
		{x, state(1, 3, 7), cmd(1), api.WrongState}, {x, state(1, 3, 7, 2, 0), cmd(1), api.WrongState},
		{x, state(1, 3, 7, top+1), cmd(1), api.WrongState}, {x, state(1, 3, -top-1, 2), cmd(1), api.WrongState},

		{x, open, cmd(2), api.NoCommand}, {x, open, cmd(-1), api.NoCommand}, {x, open, cmd(math.MinInt), api.NoCommand}, {x, open, cmd(math.MaxInt), api.NoCommand},
		{good()[3], state(0, 0), cmd(0), api.NoCommand}, {full(), decide.New(full()), cmd(12, 1, 1, 1, 1), api.NoCommand},

		{x, open, cmd(0), api.WrongArgs}, {x, open, cmd(0, 1, 2), api.WrongArgs}, {x, open, cmd(1, 0), api.WrongArgs},
		{x, open, cmd(0, top+1), api.WrongArgs}, {x, open, cmd(0, -top-1), api.WrongArgs}, {x, open, cmd(0, math.MinInt), api.WrongArgs},
		{y, state(0, 0, 0, 0), cmd(3, 1, 1, 1, math.MaxInt), api.WrongArgs}, {x, open, cmd(0, make([]int, 5000)...), api.WrongArgs},

		{x, state(0, 3, 7, 2), cmd(1), api.WrongState}, {x, state(2, 3, 7, 2), cmd(0, 1), api.WrongState}, {y, state(1, 0, 0, 0), cmd(2, 1), api.WrongState},

		{x, open, expecting(cmd(1), 0), api.WrongVersion}, {x, open, expecting(cmd(1), 2), api.WrongVersion}, {x, open, expecting(cmd(1), 4), api.WrongVersion},
		{x, open, expecting(cmd(1), math.MaxInt), api.WrongVersion}, {x, state(1, top, 7, 2), expecting(cmd(1), top+1), api.WrongVersion},
		{x, decide.New(x), expecting(cmd(0, 1), 1), api.WrongVersion},

		{x, open, cmd(0, 0), 16}, {x, open, cmd(0, -top), 16}, {y, state(0, 0, 0, 0), cmd(1, 0, 1), 20},

		{x, state(1, 3, top, 2), cmd(0, 1), api.Overflow}, {x, state(1, 3, top-4, 2), cmd(0, 5), api.Overflow}, {x, state(1, 3, 0, top), cmd(0, 5), api.Overflow},

		// In a later step: those ahead of it leave nothing.
		{y, state(0, 0, 1, 1<<21), cmd(1, 1, 1<<20), api.Overflow}, {y, state(0, 0, top-1, 0), cmd(4, 0), api.Overflow}, {y, state(0, 0, 1, 0), cmd(4, top-1), api.Overflow},
	} {
		checkDecide(t, c.table, c.s, c.c, nil, c.code)
	}
}

// TestDecideGuards: they are asked in order, and the first one that doesn't let through tells the code.
func TestDecideGuards(t *testing.T) {
	x, s := rounds(), state(0, 4, 3, 3)
	for _, c := range []struct {
		args []int
		code int
	}{
		{[]int{0, 0, 0, 0}, 16}, {[]int{1, 0, 0, 0}, 63}, {[]int{1, 1, 0, 0}, 40}, {[]int{1, 1, 1, 0}, 16}, {[]int{0, 1, 1, 1}, 16}, {[]int{1, 0, 1, 1}, 63},
		{[]int{1, top, 0, 0}, api.Overflow}, {[]int{0, top, 0, 0}, 16}, {[]int{1, 0, 1, top}, 63}, {[]int{1, 1, 0, top}, 40}, {[]int{1, 1, 1, top}, api.Overflow},
		{[]int{1, 1 << 21, 1, 0}, api.Overflow}, {[]int{1, 1 << 20, 1, 0}, 16},
	} {
		checkDecide(t, x, s, cmd(3, c.args...), nil, c.code)
	}
	// Guards are ahead of steps, and asked by where the stream stood ahead of them.
	checkDecide(t, x, state(0, 0, 0, top), cmd(4, top), nil, 30)
	checkDecide(t, x, state(0, 0, -1, 0), cmd(4, 0), []api.Event{event(1, 0, 0), event(2, 1, 0)}, api.Accepted)
}

// TestDecideFirst: of all that is wrong the first counts; each one that is mended shows the next.
func TestDecideFirst(t *testing.T) {
	x := orders()
	s, c := state(2, top+1, top, 2), api.Cmd{Rule: 2, Args: []int{top + 1}, Expect: 5}
	for _, step := range []struct {
		mend func()
		code int
	}{
		{func() { s.Version = 4 }, api.WrongState},
		{func() { c.Rule = 0 }, api.NoCommand},
		{func() { c.Args[0] = 0 }, api.WrongArgs},
		{func() { s.At = 1 }, api.WrongState},
		{func() { c.Expect = 4 }, api.WrongVersion},
		{func() { c.Args[0] = 1 }, 16},
		{func() { s.Vars[0] = 0 }, api.Overflow},
	} {
		checkDecide(t, x, s, c, nil, step.code)
		step.mend()
	}
	checkDecide(t, x, s, c, []api.Event{event(1, 1, 3)}, api.Accepted)
}

func TestDecideOfOthers(t *testing.T) {
	for _, x := range bad() {
		for rule := -1; rule < 3; rule++ {
			for at := -1; at < 4; at++ {
				checkDecide(t, x, state(at, 3, 7, 2), cmd(rule, 1), nil, api.NoCommand)
				checkDecide(t, x, state(at, 3, 7, 2), cmd(rule), nil, api.NoCommand)
			}
		}
	}
}

func TestDecideOfManyCommands(t *testing.T) {
	told := map[int]int{}
	manyCommands(func(x api.Table, s api.State, c api.Cmd) {
		l, code := decide.Decide(x, s, c)
		if events, want := wantedDecide(x, s, c); code != want || !sameEvents(l, events) {
			t.Fatalf("%v: %v, %v: %v, %d; not %v, %d", x, s, c, l, code, events, want)
		}
		told[code]++
	})
	for code := range api.LastGuard + 1 {
		if is := code <= api.Overflow || code >= api.FirstGuard; is != (told[code] > 50) {
			t.Errorf("%d: %d", code, told[code])
		}
	}
}

// TestOfManyTables: of those that may not be, too.
func TestOfManyTables(t *testing.T) {
	source := rand.New(rand.NewSource(8))
	spoilt := 0
	for range 20000 {
		x := chanceTable(source)
		spoil(source, &x)
		s := chanceState(source, x)
		c := chanceCmd(source, x, s)
		l, code := decide.Decide(x, s, c)
		if events, want := wantedDecide(x, s, c); code != want || !sameEvents(l, events) {
			t.Fatalf("%v: %v, %v: %v, %d; not %v, %d", x, s, c, l, code, events, want)
		}
		if got := decide.Right(x, s); got != wantedRight(x, s) {
			t.Fatalf("%v: %v: %v", x, s, got)
		}
		begun := decide.New(x)
		if rules.Check(x) == (api.Fault{}) {
			if !sameState(begun, state(0, 0, x.Start...)) {
				t.Fatalf("%v: %v", x, begun)
			}
			continue
		}
		spoilt++
		if !reflect.DeepEqual(begun, api.State{}) {
			t.Fatalf("%v: %v", x, begun)
		}
	}
	if spoilt < 10000 {
		t.Errorf("only %d", spoilt)
	}
}

// ---- P7.3 (Apply, Fold)

// nextVersion is the one behind an event.
func nextVersion(n int) int {
	if n >= 1<<40 {
		return n
	}
	return n + 1
}

func TestApply(t *testing.T) {
	for _, version := range edges() {
		s := state(1, version, 7, 2)
		for _, e := range []api.Event{event(2, 8, 9), event(0), event(-1, math.MaxInt, math.MinInt, 0), event(math.MaxInt, 1), {At: 1}} {
			if got, want := decide.Apply(s, e), state(e.At, nextVersion(version), e.Vars...); !sameState(got, want) {
				t.Errorf("%v, %v: %v, not %v", s, e, got, want)
			}
		}
	}
	if got := decide.Apply(api.State{}, api.Event{}); !sameState(got, state(0, 1)) {
		t.Error(got)
	}
}

func TestFold(t *testing.T) {
	many := slices.Repeat([]api.Event{event(1, 1), event(2, 2)}, 1000)
	for _, c := range []struct {
		s    api.State
		l    []api.Event
		want api.State
	}{
		{state(1, 3, 7, 2), nil, state(1, 3, 7, 2)}, {state(1, 3, 7, 2), []api.Event{}, state(1, 3, 7, 2)},
		{api.State{}, nil, api.State{}}, {state(-1, math.MaxInt, math.MinInt), nil, state(-1, math.MaxInt, math.MinInt)},
		{state(1, 3, 7, 2), []api.Event{event(2, 8, 9)}, state(2, 4, 8, 9)},
		{state(1, 3, 7, 2), []api.Event{event(2, 8, 9), event(0, 1, 1), event(5)}, state(5, 6)},
		{state(0, 0), many, state(2, 2000, 2)}, {state(0, top-2), many, state(2, top, 2)}, {state(0, top-2), many[:1], state(1, top-1, 1)},
		{state(0, -1), many[:3], state(1, 2, 1)}, {state(0, math.MinInt), many[:2], state(2, math.MinInt+2, 2)},
	} {
		if got := decide.Fold(c.s, c.l); !sameState(got, c.want) {
			t.Errorf("%v, %.200v: %v, not %v", c.s, c.l, got, c.want)
		}
	}
}

// TestFoldIsApply: one behind the other.
func TestFoldIsApply(t *testing.T) {
	source := rand.New(rand.NewSource(9))
	for range 5000 {
		s := state(oneOf(source, edges()...), oneOf(source, edges()...), slices.Repeat([]int{3}, source.Intn(4))...)
		want := s
		var l []api.Event
		for range source.Intn(6) {
			e := event(oneOf(source, edges()...), slices.Repeat([]int{oneOf(source, edges()...)}, source.Intn(4))...)
			l, want = append(l, e), decide.Apply(want, e)
		}
		if got := decide.Fold(s, l); !sameState(got, want) {
			t.Fatalf("%v, %v: %v, not %v", s, l, got, want)
		}
	}
}

// ---- P7.4 (right)

// checkBehind checks where a stream stands behind a command's events.
func checkBehind(t *testing.T, x api.Table, s api.State, c api.Cmd, l []api.Event) api.State {
	t.Helper()
	behind := decide.Fold(s, l)
	if want := min(s.Version+len(x.Rules[c.Rule].Steps), api.MaxSeq); behind.Version != want || !decide.Right(x, behind) {
		t.Fatalf("%v: %v, %v: %v", x, s, c, behind)
	}
	return behind
}

func TestRightBehindAccepted(t *testing.T) {
	accepted, last := 0, 0
	manyCommands(func(x api.Table, s api.State, c api.Cmd) {
		l, code := decide.Decide(x, s, c)
		if code != api.Accepted {
			if len(l) > 0 {
				t.Fatalf("%v: %v, %v: %d, and %v", x, s, c, code, l)
			}
			return
		}
		accepted++
		if checkBehind(t, x, s, c, l).Version == api.MaxSeq {
			last++
		}
	})
	if accepted < 5000 || last < 500 {
		t.Errorf("only %d, %d", accepted, last)
	}
}

// TestRightAllTheWay: whatever commands come one behind the other.
func TestRightAllTheWay(t *testing.T) {
	source := rand.New(rand.NewSource(10))
	farthest := 0
	for range 500 {
		x := chanceTable(source)
		s := decide.New(x)
		for range 60 {
			c := chanceCmd(source, x, s)
			if l, code := decide.Decide(x, s, c); code == api.Accepted {
				s = checkBehind(t, x, s, c, l)
			}
		}
		farthest = max(farthest, s.Version)
	}
	if farthest < 60 {
		t.Errorf("only %d", farthest)
	}
}

// ---- P7.5 (alone)

// TestWhoseItIsPlaysNoPart: Client, Seq and Stream.
func TestWhoseItIsPlaysNoPart(t *testing.T) {
	n := 0
	manyCommands(func(x api.Table, s api.State, c api.Cmd) {
		if n++; n%10 > 0 {
			return
		}
		l, code := decide.Decide(x, s, c)
		for i, client := range edges() {
			c.Client, c.Seq, c.Stream = client, edges()[len(edges())-1-i], []string{"", "a", "order/17", "\xff//"}[i%4]
			if events, got := decide.Decide(x, s, c); got != code || !sameEvents(events, l) {
				t.Fatalf("%v: %v, %v: %v, %d; not %v, %d", x, s, c, events, got, l, code)
			}
		}
	})
}

// TestExpectPlaysNoPart: below 0, or the very version.
func TestExpectPlaysNoPart(t *testing.T) {
	accepted := 0
	manyCommands(func(x api.Table, s api.State, c api.Cmd) {
		if !decide.Right(x, s) {
			return
		}
		l, code := decide.Decide(x, s, expecting(c, -1))
		if code == api.WrongVersion {
			t.Fatalf("%v: %v, %v", x, s, c)
		}
		if code == api.Accepted {
			accepted++
		}
		for _, version := range []int{-2, -top, math.MinInt, s.Version} {
			if events, got := decide.Decide(x, s, expecting(c, version)); got != code || !sameEvents(events, l) {
				t.Fatalf("%v: %v, %v with %d: %v, %d; not %v, %d", x, s, c, version, events, got, l, code)
			}
		}
	})
	if accepted < 5000 {
		t.Errorf("only %d", accepted)
	}
}

// TestVersionPlaysNoPart: where no version is expected, it is the same of each one.
func TestVersionPlaysNoPart(t *testing.T) {
	x := orders()
	for _, version := range []int{0, 1, 77, top - 1, top} {
		checkDecide(t, x, state(1, version, 7, 2), cmd(0, 3), []api.Event{event(1, 10, 3)}, api.Accepted)
	}
}

// roomy is a list with spare room behind it, in which there is something.
func roomy(l []int) []int {
	return append(slices.Clone(l), 77, 78)[:len(l)]
}

// room: is there what roomy put behind a list, still?
func room(l []int) bool {
	return slices.Equal(l[len(l):len(l)+2], []int{77, 78})
}

func TestNothingHandedInIsChanged(t *testing.T) {
	manyCommands(func(x api.Table, s api.State, c api.Cmd) {
		x.Start, s.Vars, c.Args = roomy(x.Start), roomy(s.Vars), roomy(c.Args)
		vars, args := slices.Clone(s.Vars), slices.Clone(c.Args)
		l, _ := decide.Decide(x, s, c)
		decide.New(x)
		decide.Right(x, s)
		decide.Fold(s, l)
		for _, e := range l {
			decide.Apply(s, e)
		}
		if !slices.Equal(s.Vars, vars) || !slices.Equal(c.Args, args) || !room(x.Start) || !room(s.Vars) || !room(c.Args) {
			t.Fatalf("%v: %v, %v", x, s, c)
		}
	})
}

// TestTablesAreNotChanged: nor what they are made of.
func TestTablesAreNotChanged(t *testing.T) {
	for i := range good() {
		x, before := good()[i], good()[i]
		s := decide.New(x)
		for rule := range x.Rules {
			for n := range 3 {
				c := cmd(rule, slices.Repeat([]int{n}, x.Rules[rule].Args)...)
				l, _ := decide.Decide(x, s, c)
				s = decide.Fold(s, l)
			}
		}
		if !reflect.DeepEqual(x, before) {
			t.Errorf("%v, not %v", x, before)
		}
	}
}

// overwrite spoils a list, and its spare room.
func overwrite(l []int) {
	l = l[:cap(l)]
	for i := range l {
		l[i] = 99
	}
}

// TestNewIsNewMemory: what is done to a state that was answered changes neither the table nor another answer.
func TestNewIsNewMemory(t *testing.T) {
	for _, x := range good() {
		want := slices.Clone(x.Start)
		other := decide.New(x)
		overwrite(decide.New(x).Vars)
		if !slices.Equal(x.Start, want) || !slices.Equal(other.Vars, want) || !slices.Equal(decide.New(x).Vars, want) {
			t.Errorf("%v: %v, %v", want, x.Start, other)
		}
	}
}

// TestEventsAreNewMemory: they share nothing with one another, nor with the state and the command.
func TestEventsAreNewMemory(t *testing.T) {
	x := rounds()
	for _, c := range []api.Cmd{cmd(0), cmd(1, 10, 3), cmd(2, 8), cmd(3, 1, 1, 1, 1), cmd(4, 100)} {
		s := state(0, 0, 1, -2)
		args := slices.Clone(c.Args)
		want, _ := wantedDecide(x, s, c)
		for i := range want {
			l, _ := decide.Decide(x, s, c)
			overwrite(l[i].Vars)
			l[i] = want[i]
			if !sameEvents(l, want) || !slices.Equal(s.Vars, []int{1, -2}) || !slices.Equal(c.Args, args) {
				t.Errorf("%v: %v, not %v; %v", c, l, want, s)
			}
		}
	}
}

// TestStatesAreNewMemory: those of Apply and Fold share nothing with the state, nor with an event.
func TestStatesAreNewMemory(t *testing.T) {
	s, l := state(1, 3, 7, 2), []api.Event{event(2, 8, 9), event(0, 4, 5)}
	overwrite(decide.Apply(s, l[0]).Vars)
	for n := range len(l) + 1 {
		overwrite(decide.Fold(s, l[:n]).Vars)
	}
	if !sameState(s, state(1, 3, 7, 2)) || !sameEvents(l, []api.Event{event(2, 8, 9), event(0, 4, 5)}) {
		t.Error(s, l)
	}
	// And what was handed in may be changed behind the call.
	first, second, third := decide.Apply(s, l[1]), decide.Fold(s, l), decide.Fold(s, nil)
	overwrite(s.Vars)
	overwrite(l[1].Vars)
	if !sameState(first, state(0, 4, 4, 5)) || !sameState(second, state(0, 5, 4, 5)) || !sameState(third, state(1, 3, 7, 2)) {
		t.Error(first, second, third)
	}
}
