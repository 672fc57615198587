package codec

import (
	"cmp"
	"slices"

	"surmise/api"
	"surmise/filter"
	"surmise/pattern"
)

// maxVersion is the greatest version of a stream.
const maxVersion = 1 << 40

// mayCmd tells whether a command may be laid.
func mayCmd(c api.Cmd) bool {
	return mayHead(c.Client, c.Seq, c.Stream) && within(c.Rule, 0, api.MaxRules-1) &&
		mayValues(c.Args, api.MaxArgs) && within(c.Expect, -1, maxVersion)
}

// mayRecord tells whether a record may be laid.
func mayRecord(r api.Record) bool {
	return mayHead(r.Client, r.Seq, r.Stream) && within(r.Code, api.Accepted, api.LastGuard) &&
		mayEvents(r.Events) && (r.Code == api.Accepted || len(r.Events) == 0)
}

// mayEvents tells whether events may be laid.
func mayEvents(l []api.Event) bool {
	return mayList(l, api.MaxSteps, func(e api.Event) bool { return mayStand(e.At, e.Vars) })
}

// mayItems tells whether streams and where they stand may be laid.
func mayItems(l []api.Item) bool {
	may := func(i api.Item) bool {
		return pattern.Stream(i.Stream) && mayStand(i.State.At, i.State.Vars) && within(i.State.Version, 0, maxVersion)
	}
	return mayList(l, api.MaxStreams, may) && rise(l, func(i api.Item) string { return i.Stream })
}

// mayVerdicts tells whether verdicts may be laid.
func mayVerdicts(l []api.Verdict) bool {
	may := func(v api.Verdict) bool {
		return within(v.Seq, 1, api.MaxSeq) && within(v.Code, api.Accepted, api.LastGuard)
	}
	return mayList(l, api.MaxPending, may) && rise(l, func(v api.Verdict) int { return v.Seq })
}

// mayFilter tells whether a filter may be laid.
func mayFilter(l []string) bool {
	_, e := filter.Check(l)
	return e == api.OK
}

// mayHead tells whether that may be laid with which commands and records begin.
func mayHead(client, seq int, stream string) bool {
	return within(client, 0, api.MaxClients-1) && within(seq, 1, api.MaxSeq) && pattern.Stream(stream)
}

// mayStand tells whether a stream can stand so, as far as the bytes go.
func mayStand(at int, vars []int) bool {
	return within(at, 0, api.MaxStates-1) && mayValues(vars, api.MaxVars)
}

// mayValues tells whether numbers are values, and no more than so many.
func mayValues(l []int, most int) bool {
	return mayList(l, most, func(n int) bool { return within(n, -api.MaxValue, api.MaxValue) })
}

// mayList tells whether a list has no more than so many items, and each may be laid.
func mayList[T any](l []T, most int, may func(T) bool) bool {
	return len(l) <= most && !slices.ContainsFunc(l, func(item T) bool { return !may(item) })
}

// rise tells whether the items of a list rise by their keys, no two the same.
func rise[T any, K cmp.Ordered](l []T, key func(T) K) bool {
	for i := 1; i < len(l); i++ {
		if key(l[i-1]) >= key(l[i]) {
			return false
		}
	}
	return true
}

// within tells whether a number is one from the least to the most.
func within(n, least, most int) bool {
	return least <= n && n <= most
}
