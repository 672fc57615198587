package frames

import (
	"slices"

	"surmise/api"
	"surmise/pattern"
)

// mayBe tells whether a frame may be, but for what codec tells of its lists itself when it lays or reads them.
func mayBe(f api.Frame) bool {
	return within(f.Client, 0, api.MaxClients-1) && within(f.Epoch, 1, api.MaxSeq) &&
		mayOfKind(f) && Same(others(f), api.Frame{})
}

// mayOfKind tells whether the fields that a frame's kind has may be.
func mayOfKind(f api.Frame) bool {
	switch f.Kind {
	case api.FHello:
		return within(f.From, 0, api.MaxSeq) && within(f.To, 1, api.MaxSeq)
	case api.FCmds:
		return mayCmds(f)
	case api.FAck, api.FReset:
		return within(f.To, 0, api.MaxSeq)
	case api.FBatch:
		return within(f.To, 0, api.MaxSeq) && within(f.From, 0, f.To) && mayEntries(f)
	}
	return false
}

// others is a frame without the fields that its kind has: nothing, if it may be.
func others(f api.Frame) api.Frame {
	switch f.Kind {
	case api.FHello:
		f.From, f.To, f.Filter = 0, 0, nil
	case api.FCmds:
		f.Cmds = nil
	case api.FAck:
		f.To = 0
	case api.FBatch:
		f.From, f.To, f.Entries = 0, 0, nil
	case api.FReset:
		f.To, f.Items, f.Verdicts = 0, nil, nil
	}
	f.Kind, f.Client, f.Epoch = 0, 0, 0
	return f
}

// mayCmds tells whether a frame's commands may be handed in together.
func mayCmds(f api.Frame) bool {
	foreign := func(c api.Cmd) bool { return c.Client != f.Client }
	return within(len(f.Cmds), 1, api.MaxSend) && !slices.ContainsFunc(f.Cmds, foreign) &&
		rise(f.Cmds, func(c api.Cmd) int { return c.Seq })
}

// mayEntries tells whether a frame's entries may be told together.
func mayEntries(f api.Frame) bool {
	wrong := func(x api.Entry) bool { return !within(x.Index, f.From, f.To-1) || !mayEntry(x) }
	return len(f.Entries) <= api.MaxBatch && !slices.ContainsFunc(f.Entries, wrong) &&
		rise(f.Entries, func(x api.Entry) int { return x.Index })
}

// mayEntry tells whether an entry may be: one with events names their stream, and was accepted; one without them tells of the client's own command.
func mayEntry(x api.Entry) bool {
	if !within(x.Seq, 0, api.MaxSeq) || !within(x.Code, api.Accepted, api.LastGuard) {
		return false
	}
	if len(x.Events) == 0 {
		return x.Stream == "" && x.Seq > 0
	}
	return pattern.Stream(x.Stream) && x.Code == api.Accepted
}

// rise tells whether the items of a list rise by their numbers, no two the same.
func rise[T any](l []T, number func(T) int) bool {
	for i := 1; i < len(l); i++ {
		if number(l[i-1]) >= number(l[i]) {
			return false
		}
	}
	return true
}

// within tells whether a number is one from the least to the most.
func within(n, least, most int) bool {
	return least <= n && n <= most
}
