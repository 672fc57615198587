package decide

import (
	"surmise/api"
	"surmise/expr"
	"surmise/rules"
)

// unfit is the code of a command that is refused ahead of its rule's guards.
func unfit(t api.Table, s api.State, c api.Cmd) int {
	switch {
	case !stands(t, s):
		return api.WrongState
	case c.Rule < 0 || c.Rule >= len(t.Rules):
		return api.NoCommand
	case len(c.Args) != t.Rules[c.Rule].Args || !areValues(c.Args):
		return api.WrongArgs
	case !rules.For(t, c.Rule, s.At):
		return api.WrongState
	case c.Expect >= 0 && c.Expect != s.Version:
		return api.WrongVersion
	}
	return api.Accepted
}

// tester makes what asks a guard for the code that a command gets by it.
func tester(s api.State, c api.Cmd) func(g api.Guard) int {
	return func(g api.Guard) int {
		n, e := expr.Eval(g.Test, s.Vars, c.Args)
		switch {
		case e != api.OK:
			return api.Overflow
		case n == 0:
			return g.Code
		}
		return api.Accepted
	}
}

// refusal is the code of the first guard that refuses.
func refusal(guards []api.Guard, test func(g api.Guard) int) int {
	for _, g := range guards {
		if code := test(g); code != api.Accepted {
			return code
		}
	}
	return api.Accepted
}

// events is what comes of a rule's steps, done one behind the other; of all of them none, if one is refused.
func events(steps []api.Step, s api.State, c api.Cmd) ([]api.Event, int) {
	doings := [...]func(*course, api.Step) int{(*course).set, (*course).move}
	way := course{at: s.At, vars: copied(s.Vars), args: c.Args}
	var l []api.Event
	for _, step := range steps {
		for _, do := range doings {
			if code := do(&way, step); code != api.Accepted {
				return nil, code
			}
		}
		l = append(l, way.event())
	}
	return l, api.Accepted
}

// course is where a stream stands on its way through a rule's steps, and the command's arguments.
type course struct {
	at         int
	vars, args []int
}

// set gives variables the values of a step, all by what was ahead of it.
func (w *course) set(step api.Step) int {
	ahead := copied(w.vars)
	for _, s := range step.Sets {
		n, e := expr.Eval(s.Value, ahead, w.args)
		if e != api.OK {
			return api.Overflow
		}
		w.vars[s.Var] = n
	}
	return api.Accepted
}

// move goes to the state of a step, unless that stays; it never refuses.
func (w *course) move(step api.Step) int {
	if step.To >= 0 {
		w.at = step.To
	}
	return api.Accepted
}

// event is where the stream stands, in memory of its own.
func (w *course) event() api.Event {
	return api.Event{At: w.at, Vars: copied(w.vars)}
}
