package frames

import (
	"strings"

	"surmise/api"
	"surmise/codec"
	"surmise/varint"
)

// A writer lays one field behind the other, up to the first one that may not be laid: behind that it lays nothing any more.
type writer struct {
	laid strings.Builder
	e    api.Errno
}

// frame lays the fields that a frame's kind has.
func (w *writer) frame(f api.Frame) {
	w.numbers(f.Kind, f.Client, f.Epoch)
	switch f.Kind {
	case api.FHello:
		w.numbers(f.From, f.To)
		lay(w, f.Filter, codec.PutFilter)
	case api.FCmds:
		layList(w, f.Cmds, func(c api.Cmd) { lay(w, c, codec.PutCmd) })
	case api.FAck:
		w.numbers(f.To)
	case api.FBatch:
		w.numbers(f.From, f.To)
		layList(w, f.Entries, w.entry)
	case api.FReset:
		w.numbers(f.To)
		lay(w, f.Items, codec.PutItems)
		lay(w, f.Verdicts, codec.PutVerdicts)
	}
}

// entry lays what is told of a record.
func (w *writer) entry(x api.Entry) {
	w.numbers(x.Index)
	lay(w, x.Stream, varint.Text)
	lay(w, x.Events, codec.PutEvents)
	w.numbers(x.Seq, x.Code)
}

// numbers lays numbers.
func (w *writer) numbers(l ...int) {
	for _, n := range l {
		lay(w, n, func(n int) (string, api.Errno) { return varint.Number(n), api.OK })
	}
}

// lay lays a field as put does, unless something was wrong ahead of it.
func lay[T any](w *writer, field T, put func(T) (string, api.Errno)) {
	if w.e != api.OK {
		return
	}
	laid, e := put(field)
	w.laid.WriteString(laid)
	w.e = e
}

// layList lays how many items there are, and each as item does.
func layList[T any](w *writer, l []T, item func(T)) {
	w.numbers(len(l))
	for _, one := range l {
		item(one)
	}
}
