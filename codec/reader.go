package codec

import (
	"surmise/api"
	"surmise/varint"
)

// A reader goes through a text from a place on, up to the first thing that is wrong: behind that it reads nothing any more.
type reader struct {
	text string
	at   int
	e    api.Errno
}

// readCmd reads the fields of a command.
func readCmd(r *reader) api.Cmd {
	return api.Cmd{
		Client: r.number(), Seq: r.number(), Stream: r.name(),
		Rule: r.number(), Args: r.values(api.MaxArgs), Expect: r.number(),
	}
}

// readRecord reads the fields of a record.
func readRecord(r *reader) api.Record {
	return api.Record{
		Client: r.number(), Seq: r.number(), Stream: r.name(),
		Code: r.number(), Events: readEvents(r),
	}
}

// readEvents reads the fields of events.
func readEvents(r *reader) []api.Event {
	return readList(r, api.MaxSteps, func() api.Event {
		return api.Event{At: r.number(), Vars: r.values(api.MaxVars)}
	})
}

// readItems reads the fields of streams and of where they stand.
func readItems(r *reader) []api.Item {
	return readList(r, api.MaxStreams, func() api.Item {
		return api.Item{Stream: r.name(), State: api.State{At: r.number(), Version: r.number(), Vars: r.values(api.MaxVars)}}
	})
}

// readVerdicts reads the fields of verdicts.
func readVerdicts(r *reader) []api.Verdict {
	return readList(r, api.MaxPending, func() api.Verdict {
		return api.Verdict{Seq: r.number(), Code: r.number()}
	})
}

// readFilter reads a filter's patterns.
func readFilter(r *reader) []string {
	return readList(r, api.MaxFilter, r.name)
}

// number reads a number.
func (r *reader) number() int {
	return readOne(r, varint.ReadNumber)
}

// name reads a text.
func (r *reader) name() string {
	return readOne(r, varint.ReadText)
}

// values reads numbers, so many at most.
func (r *reader) values(most int) []int {
	return readList(r, most, r.number)
}

// readOne reads a field as one of varint's functions does, unless something was wrong ahead of it.
func readOne[T any](r *reader, field func(s string, at int) (T, int, api.Errno)) T {
	var what T
	if r.e == api.OK {
		what, r.at, r.e = field(r.text, r.at)
	}
	return what
}

// readList reads how many items there are, so many at most, and each as item does.
func readList[T any](r *reader, most int, item func() T) []T {
	count := r.number()
	if r.e == api.OK && !within(count, 0, most) {
		r.e = api.ErrForm
	}
	if r.e != api.OK {
		return nil
	}
	l := make([]T, count)
	for i := range l {
		l[i] = item()
	}
	return l
}
