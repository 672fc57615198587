package frames

import (
	"slices"

	"surmise/api"
)

// Same tells whether two frames are the same.
func Same(a, b api.Frame) bool {
	return a.Kind == b.Kind && a.Client == b.Client && a.Epoch == b.Epoch && a.From == b.From && a.To == b.To &&
		slices.Equal(a.Filter, b.Filter) && slices.Equal(a.Verdicts, b.Verdicts) &&
		listsBy(sameCmd)(a.Cmds, b.Cmds) && listsBy(sameEntry)(a.Entries, b.Entries) && listsBy(sameItem)(a.Items, b.Items)
}

// sameCmd tells whether two commands are the same.
func sameCmd(a, b api.Cmd) bool {
	return a.Client == b.Client && a.Seq == b.Seq && a.Stream == b.Stream &&
		a.Rule == b.Rule && slices.Equal(a.Args, b.Args) && a.Expect == b.Expect
}

// sameEntry tells whether two entries are the same.
func sameEntry(a, b api.Entry) bool {
	return a.Index == b.Index && a.Stream == b.Stream && listsBy(sameEvent)(a.Events, b.Events) &&
		a.Seq == b.Seq && a.Code == b.Code
}

// sameEvent tells whether two events are the same.
func sameEvent(a, b api.Event) bool {
	return a.At == b.At && slices.Equal(a.Vars, b.Vars)
}

// sameItem tells whether two streams are the same, and stand in the same place.
func sameItem(a, b api.Item) bool {
	return a.Stream == b.Stream && a.State.At == b.State.At && a.State.Version == b.State.Version &&
		slices.Equal(a.State.Vars, b.State.Vars)
}

// listsBy makes what tells whether two lists are the same, item by item, by what tells it of two items.
func listsBy[T any](same func(a, b T) bool) func(a, b []T) bool {
	return func(a, b []T) bool { return slices.EqualFunc(a, b, same) }
}
