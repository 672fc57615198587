package tabular

import (
	"strconv"
	"strings"

	"surmise/api"
	"surmise/infix"
)

// ofTable is the lines ahead of the rules.
func ofTable(t api.Table) []string {
	starts := []string{wordVars}
	for i, name := range t.Vars {
		starts = append(starts, name+signStart+strconv.Itoa(t.Start[i]))
	}
	return []string{wordStates + blank + strings.Join(t.States, blank), strings.Join(starts, blank)}
}

// ofRule is the lines of a rule.
func ofRule(t api.Table, r api.Rule) []string {
	show := shower(t, r)
	lines := []string{head(t, r)}
	for _, g := range r.Guards {
		lines = append(lines, wordGuard+blank+strconv.Itoa(g.Code)+blank+show(g.Test))
	}
	for _, s := range r.Steps {
		to := wordStays
		if s.To >= 0 {
			to = t.States[s.To]
		}
		var sets []string
		for _, set := range s.Sets {
			sets = append(sets, blank+t.Vars[set.Var]+blank+wordSet+blank+show(set.Value))
		}
		lines = append(lines, wordStep+blank+to+strings.Join(sets, signNext))
	}
	return lines
}

// head is a rule's first line.
func head(t api.Table, r api.Rule) string {
	words := []string{wordRule, r.Name, strconv.Itoa(r.Args)}
	if len(r.From) > 0 {
		words = append(words, wordFrom)
	}
	for _, state := range r.From {
		words = append(words, t.States[state])
	}
	return strings.Join(words, blank)
}

// shower makes what shows the expressions of a rule; in a table that may be none has an error.
func shower(t api.Table, r api.Rule) func(code []api.Ins) string {
	return func(code []api.Ins) string {
		text, _ := infix.Show(code, t.Vars, r.Args)
		return text
	}
}
