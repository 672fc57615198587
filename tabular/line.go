package tabular

import (
	"strconv"
	"strings"

	"surmise/api"
)

// What lines are made of, beside names, numbers and expressions.
const (
	blank = " "

	wordStates = "states"
	wordVars   = "vars"
	wordRule   = "rule"
	wordFrom   = "from"
	wordGuard  = "guard"
	wordStep   = "step"
	wordStays  = "-"
	wordSet    = ":="

	signStart = "="
	signNext  = ";"
)

// line is what of a line is still to be read, without blanks at its ends.
type line struct{ rest string }

func newLine(text string) line {
	return line{strings.Trim(text, blank)}
}

func (l *line) ended() bool { return l.rest == "" }

// word takes the next word away; it is empty at the line's end.
func (l *line) word() string {
	word, rest, _ := strings.Cut(l.rest, blank)
	l.rest = strings.TrimLeft(rest, blank)
	return word
}

// piece takes what there is up to the next set away; it tells whether one follows.
func (l *line) piece() (string, bool) {
	piece, rest, follows := strings.Cut(l.rest, signNext)
	l.rest = strings.TrimLeft(rest, blank)
	return strings.TrimRight(piece, blank), follows
}

// number is what a word says, written as numbers are shown, and not below the least one.
func number(word string, least int) (int, api.Errno) {
	n, err := strconv.Atoi(word)
	if err != nil || strconv.Itoa(n) != word || n < least || n > api.MaxValue {
		return 0, api.ErrForm
	}
	return n, api.OK
}
