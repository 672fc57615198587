package frames

import (
	"surmise/api"
	"surmise/codec"
	"surmise/varint"
)

// A reader goes through a text field by field, up to the first thing that is wrong: behind that it reads nothing any more.
type reader struct {
	text string
	at   int
	e    api.Errno
}

// frame reads the fields that a frame's kind has.
func (r *reader) frame() api.Frame {
	f := api.Frame{Kind: r.kind(), Client: r.number(), Epoch: r.number()}
	switch f.Kind {
	case api.FHello:
		f.From, f.To = r.number(), r.number()
		f.Filter = read(r, codec.ReadFilter)
	case api.FCmds:
		f.Cmds = readList(r, api.MaxSend, func() api.Cmd { return read(r, codec.ReadCmd) })
	case api.FAck:
		f.To = r.number()
	case api.FBatch:
		f.From, f.To = r.number(), r.number()
		f.Entries = readList(r, api.MaxBatch, r.entry)
	case api.FReset:
		f.To = r.number()
		f.Items = read(r, codec.ReadItems)
		f.Verdicts = read(r, codec.ReadVerdicts)
	}
	return f
}

// kind reads a frame's kind. Of none nobody can tell which fields it has.
func (r *reader) kind() int {
	kind := r.number()
	if r.e == api.OK && !within(kind, api.FHello, api.FReset) {
		r.e = api.ErrForm
	}
	return kind
}

// entry reads what is told of a record.
func (r *reader) entry() api.Entry {
	return api.Entry{
		Index: r.number(), Stream: read(r, varint.ReadText), Events: read(r, codec.ReadEvents),
		Seq: r.number(), Code: r.number(),
	}
}

// number reads a number.
func (r *reader) number() int {
	return read(r, varint.ReadNumber)
}

// read reads a field as one of the functions below does, unless something was wrong ahead of it.
func read[T any](r *reader, field func(s string, at int) (T, int, api.Errno)) T {
	var what T
	if r.e == api.OK {
		what, r.at, r.e = field(r.text, r.at)
	}
	return what
}

// readList reads how many items there are, so many at most, and each as item does.
func readList[T any](r *reader, most int, item func() T) []T {
	count := r.number()
	if r.e == api.OK && !within(count, 0, most) {
		r.e = api.ErrForm
	}
	if r.e != api.OK {
		return nil
	}
	l := make([]T, count)
	for i := range l {
		l[i] = item()
	}
	return l
}
