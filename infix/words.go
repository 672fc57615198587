package infix

import (
	"strings"

	"surmise/api"
)

// signs are what people write for the instructions that put no number of their own, by their Ops.
var signs = [...]string{
	api.Neg:  "-",
	api.Not:  "!",
	api.Add:  "+",
	api.Sub:  "-",
	api.Mul:  "*",
	api.Min:  "min",
	api.Max:  "max",
	api.Less: "<",
	api.Most: "<=",
	api.Same: "=",
	api.And:  "&",
	api.Or:   "|",
	api.If:   "if",
}

// wordAt is the word that begins at a place, as long as it can be; it is empty, if none begins there.
func wordAt(text string, at int) string {
	rest := text[at:]
	switch {
	case rest == "":
		return ""
	case isLetter(rest[0]):
		return beginning(rest, api.MaxName, ofName)
	case isDigit(rest[0]):
		return beginning(rest, len(rest), isDigit)
	case rest[0] == '$' && len(rest) > 1 && isDigit(rest[1]):
		return rest[:2]
	case strings.IndexByte("(),", rest[0]) >= 0:
		return rest[:1]
	}
	return signAt(rest)
}

// signAt is the longest sign that a text begins with; it is empty, if there is none.
func signAt(text string) string {
	longest := ""
	for _, sign := range signs {
		if len(sign) > len(longest) && strings.HasPrefix(text, sign) {
			longest = sign
		}
	}
	return longest
}

// beginning is how far a text goes on with bytes of a sort; it has at most so many.
func beginning(text string, most int, sort func(byte) bool) string {
	n := 0
	for n < min(most, len(text)) && sort(text[n]) {
		n++
	}
	return text[:n]
}

// called is the Op of the instruction that a word calls by name, and 0, if it calls none.
func called(word string) int {
	for _, op := range [...]int{api.Min, api.Max, api.If} {
		if word == signs[op] {
			return op
		}
	}
	return 0
}

func isLetter(b byte) bool { return 'a' <= b && b <= 'z' }
func isDigit(b byte) bool  { return '0' <= b && b <= '9' }
func ofName(b byte) bool   { return isLetter(b) || isDigit(b) || b == '_' }
