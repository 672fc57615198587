package pattern

import (
	"strings"

	"surmise/api"
)

// What stands between two parts, and the parts that are no plain ones.
const (
	parting = "/"
	anyOne  = "*"
	anyMany = "**"
)

// walk makes what goes through a text part by part: each call tells the next one, and whether it is the last. Behind that one it tells empty parts, which no pattern has.
func walk(text string) func() (string, bool) {
	return func() (string, bool) {
		part, rest, more := strings.Cut(text, parting)
		text = rest
		return part, !more
	}
}

// isRow tells whether a text has no more bytes and parts than there may be, and each part is right.
func isRow(text string, right func(part string, last bool) bool) bool {
	if len(text) > api.MaxStream {
		return false
	}
	next := walk(text)
	for range api.MaxParts {
		part, last := next()
		if !right(part, last) {
			return false
		}
		if last {
			return true
		}
	}
	return false
}

// isPlain tells whether a part has bytes, and all are such as names have.
func isPlain(part string) bool {
	return part != "" && plainBytes(part) == len(part)
}

// plainBytes is how many bytes a text begins with that parts of names have.
func plainBytes(text string) int {
	n := 0
counting:
	for n < len(text) {
		switch b := text[n]; {
		case 'a' <= b && b <= 'z', '0' <= b && b <= '9', b == '-', b == '_':
			n++
		default:
			break counting
		}
	}
	return n
}

// together goes through two patterns side by side, and tells whether each pair of parts is right, up to both ends, or up to a pair ahead of which all is free.
func together(p, q string, free, right func(a, b string) bool) bool {
	nextOfP, nextOfQ := walk(p), walk(q)
	for {
		a, _ := nextOfP()
		b, _ := nextOfQ()
		switch {
		case free(a, b):
			return true
		case !right(a, b):
			return false
		case a == "":
			return true
		}
	}
}

// takes tells whether a part other than `**` lets another one stand against it. An empty part is the end: it and the end of the other pattern stand against one another alone.
func takes(part, other string) bool {
	return part == other || part == anyOne && other != anyMany && other != ""
}
