package tabular

import (
	"strings"

	"surmise/api"
	"surmise/infix"
)

// saidAhead is how many lines stand ahead of the rules.
const saidAhead = 2

// draft is a table of which some lines are read.
type draft struct {
	table        api.Table
	said         int // how many lines said something
	states, vars places
}

// rule is the one that is read.
func (d *draft) rule() *api.Rule {
	return &d.table.Rules[len(d.table.Rules)-1]
}

// reader reads what a line says behind its first word.
type reader func(l *line) api.Errno

// readerOf makes what reads the next line of a table, by its first word.
func readerOf(d *draft, first string) reader {
	ofRules := len(d.table.Rules) > 0
	switch {
	case first == wordStates && d.said == 0:
		return states(d)
	case first == wordVars && d.said == 1:
		return vars(d)
	case first == wordRule && d.said >= saidAhead:
		return rule(d)
	case first == wordGuard && ofRules && len(d.rule().Steps) == 0:
		return guard(d)
	case first == wordStep && ofRules:
		return step(d)
	}
	return refuse
}

// refuse reads a line that cannot stand where it does.
func refuse(*line) api.Errno { return api.ErrForm }

// states NAME { NAME }
func states(d *draft) reader {
	return func(l *line) api.Errno {
		e := oneOrMore(l, func(word string) api.Errno {
			d.table.States = append(d.table.States, strings.Clone(word))
			return unlessName(word)
		})
		d.states = placesOf(d.table.States)
		return e
	}
}

// vars { NAME=NUMBER }
func vars(d *draft) reader {
	return func(l *line) api.Errno {
		for !l.ended() {
			name, start, _ := strings.Cut(l.word(), signStart)
			n, e := number(start, -api.MaxValue)
			if e != api.OK || !infix.Name(name) {
				return api.ErrForm
			}
			d.table.Vars = append(d.table.Vars, strings.Clone(name))
			d.table.Start = append(d.table.Start, n)
		}
		d.vars = placesOf(d.table.Vars)
		return api.OK
	}
}

// rule NAME NUMBER [ from NAME { NAME } ]
func rule(d *draft) reader {
	return func(l *line) api.Errno {
		name := l.word()
		if !infix.Name(name) {
			return api.ErrForm
		}
		args, e := number(l.word(), 0)
		if e != api.OK {
			return e
		}
		r := api.Rule{Name: strings.Clone(name), Args: args}
		if !l.ended() {
			r.From, e = from(d, l)
		}
		d.table.Rules = append(d.table.Rules, r)
		return e
	}
}

// from NAME { NAME }
func from(d *draft, l *line) ([]int, api.Errno) {
	if l.word() != wordFrom {
		return nil, api.ErrForm
	}
	var list []int
	e := oneOrMore(l, func(word string) api.Errno {
		state, e := d.states.find(word)
		list = append(list, state)
		return e
	})
	return list, e
}

// guard NUMBER EXPRESSION
func guard(d *draft) reader {
	read := expression(d)
	return func(l *line) api.Errno {
		code, e := number(l.word(), 0)
		if e != api.OK {
			return e
		}
		test, e := read(l.rest)
		r := d.rule()
		r.Guards = append(r.Guards, api.Guard{Code: code, Test: test})
		return e
	}
}

// step (NAME | -) [ SET { ; SET } ]
func step(d *draft) reader {
	read := set(d)
	return func(l *line) api.Errno {
		to, e := goesTo(d, l.word())
		s := api.Step{To: to}
		for follows := !l.ended(); follows && e == api.OK; {
			var one api.Set
			one, follows, e = read(l)
			s.Sets = append(s.Sets, one)
		}
		r := d.rule()
		r.Steps = append(r.Steps, s)
		return e
	}
}

// goesTo is the state that a step's word says; below 0, if it stays.
func goesTo(d *draft, word string) (int, api.Errno) {
	if word == wordStays {
		return -1, api.OK
	}
	return d.states.find(word)
}

// set makes what reads NAME := EXPRESSION, and tells whether another one follows.
func set(d *draft) func(l *line) (api.Set, bool, api.Errno) {
	read := expression(d)
	return func(l *line) (api.Set, bool, api.Errno) {
		variable, e := d.vars.find(l.word())
		switch {
		case e != api.OK:
			return api.Set{}, false, e
		case l.word() != wordSet:
			return api.Set{}, false, api.ErrForm
		}
		piece, follows := l.piece()
		value, e := read(piece)
		return api.Set{Var: variable, Value: value}, follows, e
	}
}

// expression makes what reads an expression of the rule that is read.
func expression(d *draft) func(text string) ([]api.Ins, api.Errno) {
	return func(text string) ([]api.Ins, api.Errno) {
		code, _, e := infix.Parse(text, d.table.Vars, d.rule().Args)
		return code, e
	}
}

// oneOrMore reads all words that are left; where none is, it reads an empty one, which is wrong everywhere.
func oneOrMore(l *line, read func(word string) api.Errno) api.Errno {
	e := read(l.word())
	for e == api.OK && !l.ended() {
		e = read(l.word())
	}
	return e
}

// places tells where each name stands first.
type places map[string]int

func placesOf(names []string) places {
	p := places{}
	for i, name := range names {
		if _, ahead := p[name]; !ahead {
			p[name] = i
		}
	}
	return p
}

// find tells where the name that a word is stands.
func (p places) find(word string) (int, api.Errno) {
	if e := unlessName(word); e != api.OK {
		return 0, e
	}
	at, stands := p[word]
	if !stands {
		return 0, api.ErrNone
	}
	return at, api.OK
}

func unlessName(word string) api.Errno {
	if !infix.Name(word) {
		return api.ErrForm
	}
	return api.OK
}
