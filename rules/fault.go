package rules

import (
	"slices"

	"surmise/api"
	"surmise/expr"
	"surmise/infix"
)

// tableItself stands in a fault where the number of a rule does, if none has it.
const tableItself = -1

// part is one of a table, or of a rule.
type part struct {
	number int
	whole  api.Errno              // what is wrong with it as a whole
	places int                    // how many it has
	wrong  func(at int) api.Errno // what is wrong at a place
}

// firstFault is the first thing that is wrong with parts. Places are asked only where the whole is right, so that no long list is gone through.
func firstFault(rule int, parts []part) api.Fault {
	for _, p := range parts {
		if p.whole != api.OK {
			return api.Fault{E: p.whole, Rule: rule, Part: p.number}
		}
		for at := range p.places {
			if e := p.wrong(at); e != api.OK {
				return api.Fault{E: e, Rule: rule, Part: p.number, At: at}
			}
		}
	}
	return api.Fault{}
}

// ofTable is the parts of a table itself, in the order in which they are asked.
func ofTable(t api.Table) []part {
	asMany := unless(len(t.Start) == len(t.Vars), api.ErrArg)
	start := func(at int) api.Errno {
		return unless(-api.MaxValue <= t.Start[at] && t.Start[at] <= api.MaxValue, api.ErrRange)
	}
	return []part{
		{api.PartStates, count(len(t.States), 1, api.MaxStates), len(t.States), names(t.States)},
		{api.PartVars, count(len(t.Vars), 0, api.MaxVars), len(t.Vars), names(t.Vars)},
		{api.PartStart, asMany, len(t.Start), start},
		{number: api.PartRules, whole: count(len(t.Rules), 0, api.MaxRules)},
	}
}

// ofRule is the parts of a rule, in the order in which they are asked.
func ofRule(t api.Table, n int) []part {
	r := t.Rules[n]
	return []part{
		{number: api.PartName, whole: ofName(r.Name, Find(t, r.Name) < n)},
		{number: api.PartArgs, whole: unless(0 <= r.Args && r.Args <= api.MaxArgs, api.ErrRange)},
		{api.PartFrom, api.OK, len(r.From), from(t, r)},
		{api.PartGuards, count(len(r.Guards), 0, api.MaxGuards), len(r.Guards), guards(t, r)},
		{api.PartSteps, count(len(r.Steps), 1, api.MaxSteps), len(r.Steps), steps(t, r)},
	}
}

// names makes what tells what is wrong with each of some names.
func names(list []string) func(at int) api.Errno {
	return func(at int) api.Errno {
		return ofName(list[at], slices.Index(list, list[at]) < at)
	}
}

// from makes what tells what is wrong with each state that a rule is for.
func from(t api.Table, r api.Rule) func(at int) api.Errno {
	return func(at int) api.Errno {
		return ofPlace(r.From[at], len(t.States), slices.Index(r.From, r.From[at]) < at)
	}
}

// guards makes what tells what is wrong with each guard of a rule.
func guards(t api.Table, r api.Rule) func(at int) api.Errno {
	ofCode := expressions(t, r)
	return func(at int) api.Errno {
		g := r.Guards[at]
		if g.Code < api.FirstGuard || g.Code > api.LastGuard {
			return api.ErrRange
		}
		return ofCode(g.Test)
	}
}

// steps makes what tells what is wrong with each step of a rule.
func steps(t api.Table, r api.Rule) func(at int) api.Errno {
	ofSet := sets(t, r)
	return func(at int) api.Errno {
		step := r.Steps[at]
		if step.To >= len(t.States) {
			return api.ErrRange
		}
		for i := range step.Sets {
			if e := ofSet(step.Sets, i); e != api.OK {
				return e
			}
		}
		return api.OK
	}
}

// sets makes what tells what is wrong with one of a step's sets.
func sets(t api.Table, r api.Rule) func(list []api.Set, i int) api.Errno {
	ofCode := expressions(t, r)
	return func(list []api.Set, i int) api.Errno {
		same := func(s api.Set) bool { return s.Var == list[i].Var }
		if e := ofPlace(list[i].Var, len(t.Vars), slices.IndexFunc(list, same) < i); e != api.OK {
			return e
		}
		return ofCode(list[i].Value)
	}
}

// expressions makes what tells what is wrong with an expression of a rule.
func expressions(t api.Table, r api.Rule) func(code []api.Ins) api.Errno {
	return func(code []api.Ins) api.Errno {
		_, e := expr.Check(code, len(t.Vars), r.Args)
		return e
	}
}

// ofName is what is wrong with a name, which one ahead may have too.
func ofName(name string, ahead bool) api.Errno {
	if !infix.Name(name) {
		return api.ErrForm
	}
	return unless(!ahead, api.ErrExist)
}

// ofPlace is what is wrong with a number that means one of so many, which one ahead may have too.
func ofPlace(n, many int, ahead bool) api.Errno {
	if !isPlace(n, many) {
		return api.ErrRange
	}
	return unless(!ahead, api.ErrExist)
}

// count is what is wrong with how many there are.
func count(n, least, most int) api.Errno {
	if n > most {
		return api.ErrBig
	}
	return unless(n >= least, api.ErrArg)
}

// unless is an error, unless all is well.
func unless(well bool, e api.Errno) api.Errno {
	if well {
		return api.OK
	}
	return e
}
