package filter

import (
	"slices"
	"strings"

	"surmise/api"
	"surmise/pattern"
)

// normalOf is the normal form of the patterns of some filters, put together one behind the other, if that is a filter.
func normalOf(l ...[]string) ([]string, api.Errno) {
	next := needed(slices.Concat(l...))
	var kept []string
	for p, more := next(); more; p, more = next() {
		if len(kept) == api.MaxFilter {
			return nil, api.ErrBig
		}
		kept = append(kept, strings.Clone(p))
	}
	slices.SortFunc(kept, pattern.Compare)
	return kept, api.OK
}

// needed makes what asks a filter, whose memory it uses up, for its patterns that are needed, one by one: those that no other one covers.
func needed(left []string) func() (string, bool) {
	return func() (string, bool) {
		if len(left) == 0 {
			return "", false
		}
		widest := left[0]
		for _, p := range left {
			// Once through is enough: what covers this one covers all that were the widest ahead of it, too.
			if pattern.Covers(p, widest) {
				widest = p
			}
		}
		left = slices.DeleteFunc(left, func(p string) bool { return pattern.Covers(widest, p) })
		return widest, true
	}
}
