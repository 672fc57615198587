package frames_test

import (
	"encoding/binary"
	"hash/crc32"
	"math"
	"math/rand"
	"reflect"
	"slices"
	"strconv"
	"strings"
	"testing"
	"unsafe"

	"surmise/api"
	"surmise/codec"
	"surmise/frames"
	"surmise/pattern"
)

const top = 1 << 40

// ---- Bytes, by the library's own varints and sums

// bytesOf lays numbers, texts and what is laid already one behind the other, whether they may be or not.
func bytesOf(flat ...any) string {
	var b []byte
	for _, f := range flat {
		switch v := f.(type) {
		case int:
			b = binary.AppendVarint(b, int64(v))
		case string:
			b = append(binary.AppendVarint(b, int64(len(v))), v...)
		case []any:
			b = append(b, bytesOf(v...)...)
		}
	}
	return string(b)
}

func seal(body string) string {
	sum := crc32.Checksum([]byte(body), crc32.MakeTable(crc32.Castagnoli))
	return string(binary.LittleEndian.AppendUint32([]byte(body), sum))
}

// flatList is how many items a list has, and each.
func flatList[T any](l []T, item func(T) []any) []any {
	flat := []any{len(l)}
	for _, v := range l {
		flat = append(flat, item(v)...)
	}
	return flat
}

func flatNumber(n int) []any      { return []any{n} }
func flatText(s string) []any     { return []any{s} }
func flatEvent(e api.Event) []any { return []any{e.At, flatList(e.Vars, flatNumber)} }
func flatItem(i api.Item) []any {
	return []any{i.Stream, i.State.At, i.State.Version, flatList(i.State.Vars, flatNumber)}
}
func flatVerdict(v api.Verdict) []any { return []any{v.Seq, v.Code} }
func flatCmd(c api.Cmd) []any {
	return []any{c.Client, c.Seq, c.Stream, c.Rule, flatList(c.Args, flatNumber), c.Expect}
}
func flatEntry(x api.Entry) []any {
	return []any{x.Index, x.Stream, flatList(x.Events, flatEvent), x.Seq, x.Code}
}

// body is a frame's bytes ahead of the sum, whether it may be or not.
func body(f api.Frame) string {
	flat := []any{f.Kind, f.Client, f.Epoch}
	switch f.Kind {
	case api.FHello:
		flat = append(flat, f.From, f.To, flatList(f.Filter, flatText))
	case api.FCmds:
		flat = append(flat, flatList(f.Cmds, flatCmd))
	case api.FAck:
		flat = append(flat, f.To)
	case api.FBatch:
		flat = append(flat, f.From, f.To, flatList(f.Entries, flatEntry))
	case api.FReset:
		flat = append(flat, f.To, flatList(f.Items, flatItem), flatList(f.Verdicts, flatVerdict))
	}
	return bytesOf(flat...)
}

// plain makes all lists without an item nil.
func plain(f api.Frame) api.Frame {
	empty(reflect.ValueOf(&f).Elem())
	return f
}

func empty(v reflect.Value) {
	switch v.Kind() {
	case reflect.Struct:
		for i := range v.NumField() {
			empty(v.Field(i))
		}
	case reflect.Slice:
		if v.Len() == 0 {
			v.SetZero()
			return
		}
		own := reflect.MakeSlice(v.Type(), v.Len(), v.Len())
		reflect.Copy(own, v)
		v.Set(own)
		for i := range v.Len() {
			empty(v.Index(i))
		}
	}
}

func equal(a, b api.Frame) bool { return reflect.DeepEqual(plain(a), plain(b)) }

// ---- Frames that may be, and such as may not

func hello() api.Frame {
	return api.Frame{Kind: api.FHello, Client: 1, Epoch: 2, From: 3, To: 4, Filter: []string{"b/*", "a"}}
}

func cmds() api.Frame {
	return api.Frame{Kind: api.FCmds, Client: 1, Epoch: 2, Cmds: []api.Cmd{
		{Client: 1, Seq: 3, Stream: "a/b", Rule: 2, Args: []int{5, -6}, Expect: -1},
		{Client: 1, Seq: 4, Stream: "c", Expect: 7},
		{Client: 1, Seq: 9, Stream: "a/b", Rule: 11, Args: []int{1}},
	}}
}

func ack() api.Frame { return api.Frame{Kind: api.FAck, Client: 1, Epoch: 2, To: 3} }

func batch() api.Frame {
	return api.Frame{Kind: api.FBatch, Client: 1, Epoch: 2, From: 3, To: 9, Entries: []api.Entry{
		{Index: 3, Seq: 5, Code: 16},
		{Index: 5, Stream: "a", Events: []api.Event{{At: 1, Vars: []int{4}}, {At: 2}}},
		{Index: 8, Stream: "a/b", Events: []api.Event{{At: 1, Vars: []int{-4, 5}}}, Seq: 6},
	}}
}

func reset() api.Frame {
	return api.Frame{Kind: api.FReset, Client: 1, Epoch: 2, To: 3,
		Items:    []api.Item{{Stream: "a", State: api.State{At: 1, Version: 2, Vars: []int{3}}}, {Stream: "b/c"}},
		Verdicts: []api.Verdict{{Seq: 3, Code: 16}, {Seq: 7}},
	}
}

func kinds() []func() api.Frame { return []func() api.Frame{hello, cmds, ack, batch, reset} }

// changed: what each of some values makes of a good frame.
func changed[V any](l []api.Frame, good func() api.Frame, to []V, change func(*api.Frame, V)) []api.Frame {
	for _, v := range to {
		f := good()
		change(&f, v)
		l = append(l, f)
	}
	return l
}

// outside: numbers that are none from least to most, near it and far off.
func outside(least, most int) []int {
	return []int{least - 1, most + 1, least - 64, most + 64, math.MinInt, math.MaxInt}
}

func client(f *api.Frame, n int)          { f.Client = n }
func epoch(f *api.Frame, n int)           { f.Epoch = n }
func from(f *api.Frame, n int)            { f.From = n }
func to(f *api.Frame, n int)              { f.To = n }
func filter(f *api.Frame, l []string)     { f.Filter = l }
func seqs(f *api.Frame, l []int)          { f.Cmds = numbered(1, l...) }
func entries(f *api.Frame, l []api.Entry) { f.Entries = l }
func items(f *api.Frame, l []api.Item)    { f.Items = l }
func verdicts(f *api.Frame, l []api.Verdict) {
	f.Verdicts = l
}

// numbered: commands of a client with these numbers.
func numbered(client int, l ...int) []api.Cmd {
	var c []api.Cmd
	for _, n := range l {
		c = append(c, api.Cmd{Client: client, Seq: n, Stream: "a", Expect: -1})
	}
	return c
}

// placed: entries at these places.
func placed(l ...int) []api.Entry {
	var x []api.Entry
	for _, n := range l {
		x = append(x, api.Entry{Index: n, Seq: 1})
	}
	return x
}

// upTo: the numbers from least on, so many.
func upTo(least, n int) []int {
	l := make([]int, n)
	for i := range l {
		l[i] = least + i
	}
	return l
}

func streams(n int) []api.Item {
	l := make([]api.Item, n)
	for i := range l {
		l[i] = api.Item{Stream: "s/" + strconv.Itoa(100+i), State: api.State{At: i % 8, Version: i, Vars: upTo(i, i%7)}}
	}
	return l
}

func told(n int) []api.Verdict {
	l := make([]api.Verdict, n)
	for i := range l {
		l[i] = api.Verdict{Seq: i + 1, Code: i % 64}
	}
	return l
}

func goodFrames() []api.Frame {
	var l []api.Frame
	for _, good := range kinds() {
		l = append(l, good())
		l = changed(l, good, []int{1, 2, 63, 64, top - 1, top}, epoch)
		l = changed(l, good, upTo(0, 6), func(f *api.Frame, n int) {
			f.Client = n
			for i := range f.Cmds {
				f.Cmds[i].Client = n
			}
		})
		// None or empty is the same.
		l = changed(l, good, []int{0}, func(f *api.Frame, n int) {
			f.Filter, f.Cmds = slices.Concat([]string{}, f.Filter), slices.Concat([]api.Cmd{}, f.Cmds)
			f.Entries, f.Items = slices.Concat([]api.Entry{}, f.Entries), slices.Concat([]api.Item{}, f.Items)
			f.Verdicts = slices.Concat([]api.Verdict{}, f.Verdicts)
		})
	}
	return slices.Concat(l, goodHellos(), goodCmds(), goodBatches(), goodEntries(), goodResets())
}

func goodHellos() []api.Frame {
	l := changed(nil, hello, []int{0, 1, 63, 64, top}, from)
	l = changed(l, hello, []int{1, 2, 63, 64, top}, to)
	l = changed(l, hello, [][]string{nil, {}, {"**"}, {"a", "a"}, {"b", "a"}, slices.Repeat([]string{"a"}, 8), {strings.Repeat("a", 32), "*/*/*/**"}}, filter)
	return changed(l, ack, []int{0, 1, 63, 64, top}, to)
}

func goodCmds() []api.Frame {
	l := changed(nil, cmds, [][]int{{1}, {top}, {1, 2}, {1, top}, {top - 1, top}, upTo(1, 8), upTo(60, 8), upTo(top-7, 8), {2, 30, 400}}, seqs)
	return changed(l, cmds, []api.Cmd{
		{Client: 1, Seq: 1, Stream: strings.Repeat("a", 32), Rule: 11, Args: []int{top, -top, 0, 1}, Expect: top},
		{Client: 1, Seq: 3, Stream: "a/b/c/d", Args: []int{}, Expect: -1},
	}, func(f *api.Frame, c api.Cmd) { f.Cmds[0] = c })
}

func goodBatches() []api.Frame {
	type row struct {
		from, to int
		places   []int
	}
	return changed(nil, batch, []row{
		{0, 0, nil}, {0, 1, nil}, {0, 1, []int{0}}, {5, 5, nil}, {5, 6, []int{5}}, {5, 7, []int{6}}, {0, 64, []int{0, 63}}, {top, top, nil},
		{0, top, []int{0, top - 1}}, {top - 1, top, []int{top - 1}}, {0, 16, upTo(0, 16)}, {0, 1000, upTo(100, 15)}, {7, 23, upTo(7, 16)},
	}, func(f *api.Frame, r row) { f.From, f.To, f.Entries = r.from, r.to, placed(r.places...) })
}

func goodEntries() []api.Frame {
	events := []api.Event{{At: 7, Vars: []int{top, -top, 0, 1, 2, 3}}, {}, {At: 1}}
	l := []api.Entry{
		{Seq: top, Code: 63}, {Seq: 1}, {Seq: 1, Events: []api.Event{}}, {Stream: "a", Events: events}, {Stream: "a", Events: events[:1], Seq: top},
		{Stream: strings.Repeat("a", 32), Events: events[1:2]}, {Stream: "a/b/c/d", Events: events[2:], Seq: 1},
	}
	for code := range 64 {
		l = append(l, api.Entry{Seq: 2, Code: code})
	}
	return changed(nil, batch, l, oneEntry)
}

// oneEntry puts an entry in the middle.
func oneEntry(f *api.Frame, x api.Entry) {
	x.Index = 5
	f.Entries[1] = x
}

func goodResets() []api.Frame {
	l := changed(nil, reset, []int{0, 1, 63, 64, top}, to)
	l = changed(l, reset, [][]api.Item{nil, {}, streams(1), streams(63), streams(64)}, items)
	return changed(l, reset, [][]api.Verdict{nil, {}, told(1), told(31), told(32), {{Seq: top, Code: 63}}}, verdicts)
}

// badFrames are frames that may not be, all but the last ones so that their bytes tell it.
func badFrames() []api.Frame {
	var l []api.Frame
	for _, good := range kinds() {
		l = changed(l, good, outside(0, 5), client)
		l = changed(l, good, append(outside(1, top), 0), epoch)
	}
	l = changed(l, hello, outside(0, top), from)
	l = changed(l, hello, append(outside(1, top), 0), to)
	l = changed(l, hello, [][]string{{""}, {"A"}, {"a", "a//b"}, {"**/a"}, slices.Repeat([]string{"a"}, 9), slices.Repeat([]string{"a"}, 300), {strings.Repeat("a", 33)}, {strings.Repeat("a", 5000)}}, filter)
	l = changed(l, ack, outside(0, top), to)
	l = changed(l, reset, outside(0, top), to)
	l = changed(l, reset, [][]api.Item{streams(65), streams(300), {{}}, {{Stream: "b"}, {Stream: "a"}}, {{Stream: "a"}, {Stream: "a"}}, {{Stream: "*"}}, {{Stream: "a", State: api.State{At: 8}}}, {{Stream: "a", State: api.State{Version: -1}}}, {{Stream: "a", State: api.State{Vars: make([]int, 7)}}}}, items)
	l = changed(l, reset, [][]api.Verdict{told(33), told(300), {{}}, {{Seq: 2}, {Seq: 1}}, {{Seq: 2}, {Seq: 2}}, {{Seq: 1, Code: 64}}, {{Seq: 1, Code: -1}}, {{Seq: top + 1}}}, verdicts)
	return slices.Concat(l, badCmds(), badBatches(), badEntries())
}

func badCmds() []api.Frame {
	l := changed(nil, cmds, [][]int{nil, {}, {0}, {-1}, {top + 1}, {2, 2}, {2, 1}, {1, 2, 2}, {1, 3, 2}, {1, 2, 1}, {top, top}, upTo(1, 9), upTo(1, 300), upTo(0, 8), upTo(top-6, 8)}, seqs)
	good := cmds().Cmds[1]
	var bad []api.Cmd
	for _, n := range append(outside(0, 5), 0, 2, 5) {
		c := good
		c.Client = n
		bad = append(bad, c)
	}
	for _, s := range []string{"", "a/", "*", "A", strings.Repeat("a", 33), strings.Repeat("a", 5000)} {
		c := good
		c.Stream = s
		bad = append(bad, c)
	}
	for _, n := range outside(0, 11) {
		c := good
		c.Rule = n
		bad = append(bad, c)
	}
	for _, v := range [][]int{make([]int, 5), {top + 1}, {0, -top - 1}} {
		c := good
		c.Args = v
		bad = append(bad, c)
	}
	for _, n := range outside(-1, top) {
		c := good
		c.Expect = n
		bad = append(bad, c)
	}
	for at := range 3 {
		l = changed(l, cmds, bad, func(f *api.Frame, c api.Cmd) {
			c.Seq = f.Cmds[at].Seq
			f.Cmds[at] = c
		})
	}
	return l
}

func badBatches() []api.Frame {
	type row struct {
		from, to int
		places   []int
	}
	return changed(nil, batch, []row{
		{-1, 0, nil}, {-1, 9, []int{3}}, {1, 0, nil}, {4, 3, nil}, {0, -1, nil}, {-2, -1, nil}, {0, top + 1, nil}, {top + 1, top + 1, nil}, {top + 1, top, nil},
		{math.MinInt, math.MaxInt, nil}, {0, math.MinInt, nil}, {math.MinInt, math.MinInt, []int{math.MaxInt}}, {0, math.MaxInt, nil},
		{0, 0, []int{0}}, {0, 0, []int{-1}}, {5, 5, []int{5}}, {5, 5, []int{4}}, {5, 7, []int{4}}, {5, 7, []int{7}}, {5, 7, []int{4, 5}}, {5, 7, []int{6, 7}}, {5, 7, []int{5, 8}},
		{5, 9, []int{6, 6}}, {5, 9, []int{7, 6}}, {5, 9, []int{5, 7, 7}}, {5, 9, []int{5, 7, 6}}, {5, 9, []int{6, 7, 6}}, {0, top, []int{top}}, {0, 9, []int{math.MinInt}}, {0, 9, []int{math.MaxInt}},
		{0, 17, upTo(0, 17)}, {0, 1000, upTo(0, 300)}, {0, 1000, upTo(0, 17)}, {top, top, []int{top}},
	}, func(f *api.Frame, r row) { f.From, f.To, f.Entries = r.from, r.to, placed(r.places...) })
}

func badEntries() []api.Frame {
	events := []api.Event{{At: 1}}
	l := []api.Entry{
		{}, {Code: 1}, {Code: 16}, {Stream: "a"}, {Stream: "a", Seq: 1}, {Stream: "a", Seq: 1, Code: 16}, {Events: events}, {Events: events, Seq: 1}, {Stream: "A", Events: events},
		{Stream: "*", Events: events}, {Stream: "A", Seq: 1}, {Stream: strings.Repeat("a", 33), Events: events}, {Stream: strings.Repeat("a", 5000), Events: events}, {Stream: strings.Repeat("a", 5000), Seq: 1},
		{Stream: "a", Events: events, Code: 1}, {Stream: "a", Events: events, Code: 16}, {Stream: "a", Events: events, Seq: 1, Code: 1}, {Stream: "a", Events: events, Seq: 1, Code: 63},
		{Stream: "a", Events: make([]api.Event, 4)}, {Stream: "a", Events: make([]api.Event, 300)}, {Stream: "a", Events: []api.Event{{At: 8}}}, {Stream: "a", Events: []api.Event{{At: -1}}},
		{Stream: "a", Events: []api.Event{{}, {Vars: make([]int, 7)}}}, {Stream: "a", Events: []api.Event{{Vars: []int{top + 1}}}},
	}
	for _, n := range outside(0, 63) {
		l = append(l, api.Entry{Seq: 1, Code: n}, api.Entry{Stream: "a", Events: events, Code: n})
	}
	for _, n := range outside(0, top) {
		l = append(l, api.Entry{Seq: n}, api.Entry{Seq: n, Code: 16}, api.Entry{Stream: "a", Events: events, Seq: n})
	}
	return changed(nil, batch, l, oneEntry)
}

// foreign are frames with something in fields that their kind doesn't have, so that no bytes tell it; and such of no kind.
func foreign() []api.Frame {
	var l []api.Frame
	number := []int{1, -1, top}
	for _, good := range []func() api.Frame{cmds, ack, reset} {
		l = changed(l, good, number, from)
	}
	l = changed(l, cmds, number, to)
	for i, good := range kinds() {
		if i != 0 {
			l = changed(l, good, [][]string{{""}, {"a"}, {"a", "b"}}, filter)
		}
		if i != 1 {
			l = changed(l, good, [][]int{{0}, {1}, {1, 2}}, seqs)
		}
		if i != 3 {
			l = changed(l, good, [][]api.Entry{{{}}, placed(3)}, entries)
		}
		if i != 4 {
			l = changed(l, good, [][]api.Item{{{}}, streams(1)}, items)
			l = changed(l, good, [][]api.Verdict{{{}}, told(1)}, verdicts)
		}
		l = changed(l, good, append(outside(1, 5), 0), func(f *api.Frame, n int) { f.Kind = n })
	}
	return append(l, api.Frame{}, api.Frame{Client: 1, Epoch: 1}, api.Frame{Kind: 6, Epoch: 1})
}

// ---- P11.1 (Put)

// right tells whether a frame may be, as the document's words go.
func right(f api.Frame) bool {
	own := api.Frame{Kind: f.Kind, Client: f.Client, Epoch: f.Epoch}
	in := func(n, least int) bool { return n >= least && n <= top }
	may := false
	switch f.Kind {
	case 1:
		own.From, own.To, own.Filter = f.From, f.To, f.Filter
		may = in(f.From, 0) && in(f.To, 1) && laid(codec.PutFilter(f.Filter))
	case 2:
		own.Cmds = f.Cmds
		may = len(f.Cmds) > 0 && len(f.Cmds) < 9
		last := 0
		for _, c := range f.Cmds {
			may = may && laid(codec.PutCmd(c)) && c.Client == f.Client && c.Seq > last
			last = c.Seq
		}
	case 3:
		own.To = f.To
		may = in(f.To, 0)
	case 4:
		own.From, own.To, own.Entries = f.From, f.To, f.Entries
		may = in(f.From, 0) && in(f.To, 0) && f.From <= f.To && len(f.Entries) < 17
		last := f.From - 1
		for _, x := range f.Entries {
			may = may && x.Index > last && x.Index < f.To && rightEntry(x)
			last = x.Index
		}
	case 5:
		own.To, own.Items, own.Verdicts = f.To, f.Items, f.Verdicts
		may = in(f.To, 0) && laid(codec.PutItems(f.Items)) && laid(codec.PutVerdicts(f.Verdicts))
	}
	return may && f.Client >= 0 && f.Client < 6 && in(f.Epoch, 1) && equal(f, own)
}

func rightEntry(x api.Entry) bool {
	events, nothing := len(x.Events) > 0, x.Stream == "" && len(x.Events) == 0
	if !(pattern.Stream(x.Stream) && events && laid(codec.PutEvents(x.Events)) || nothing) {
		return false
	}
	if (events || x.Seq == 0) && x.Code != 0 || !events && x.Seq <= 0 {
		return false
	}
	return x.Seq >= 0 && x.Seq <= top && x.Code >= 0 && x.Code <= 63
}

func laid(_ string, e api.Errno) bool { return e == api.OK }

func testPut(t *testing.T, f api.Frame) {
	t.Helper()
	want, errno := seal(body(f)), api.OK
	if !right(f) {
		want, errno = "", api.ErrArg
	}
	if s, e := frames.Put(f); s != want || e != errno {
		t.Fatalf("%.300v: %.300x, %v; not %.300x, %v", f, s, e, want, errno)
	}
}

// TestPutTouched: good frames and bad ones with one thing in them changed.
func TestPutTouched(t *testing.T) {
	for _, f := range slices.Concat(goodFrames(), badFrames(), foreign()) {
		testPut(t, f)
	}
	source := rand.New(rand.NewSource(4))
	all := []api.Frame{full()}
	for _, good := range kinds() {
		all = append(all, good())
	}
	for range 60 {
		all = append(all, chance(source))
	}
	for _, f := range all {
		touched(reflect.ValueOf(&f).Elem(), func() { testPut(t, f) })
	}
}

func TestPut(t *testing.T) {
	for i, f := range goodFrames() {
		if s, e := frames.Put(f); s != seal(body(f)) || e != api.OK {
			t.Errorf("good %d: %.200v: %.200x, %v; not %.200x", i, f, s, e, seal(body(f)))
		}
	}
	for i, f := range slices.Concat(badFrames(), foreign()) {
		if s, e := frames.Put(f); s != "" || e != api.ErrArg {
			t.Errorf("bad %d: %.200v: %.200x, %v", i, f, s, e)
		}
	}
}

func TestBytes(t *testing.T) {
	for _, c := range []struct {
		f    api.Frame
		want string
	}{
		{ack(), "\x06\x02\x04\x06"}, // example 1
		{api.Frame{Kind: 1, Client: 5, Epoch: 64, From: 3, To: 1, Filter: []string{"b", "a/**"}}, "\x02\x0a\x80\x01\x06\x02\x04\x02b\x08a/**"},
		{api.Frame{Kind: 1, Epoch: 1, To: 1}, "\x02\x00\x02\x00\x02\x00"},
		{api.Frame{Kind: 2, Client: 1, Epoch: 2, Cmds: numbered(1, 2, 3)}, "\x04\x02\x04\x04\x02\x04\x02a\x00\x00\x01\x02\x06\x02a\x00\x00\x01"},
		{api.Frame{Kind: 4, Client: 1, Epoch: 2, From: 3, To: 3}, "\x08\x02\x04\x06\x06\x00"},
		{api.Frame{Kind: 4, Client: 1, Epoch: 2, From: 3, To: 9, Entries: []api.Entry{{Index: 3, Seq: 5, Code: 16}, {Index: 7, Stream: "a", Events: []api.Event{{At: 1, Vars: []int{4}}}}}},
			"\x08\x02\x04\x06\x12\x04\x06\x00\x00\x0a\x20\x0e\x02a\x02\x02\x02\x08\x00\x00"},
		{reset(), "\x0a\x02\x04\x06\x04\x02a\x02\x04\x02\x06\x06b/c\x00\x00\x00\x04\x06\x20\x0e\x00"},
		{api.Frame{Kind: 5, Epoch: 1}, "\x0a\x00\x02\x00\x00\x00"},
	} {
		if s, e := frames.Put(c.f); s != seal(c.want) || e != api.OK {
			t.Errorf("%v: %x, %v; not %x", c.f, s, e, seal(c.want))
		}
	}
	if s, _ := frames.Put(ack()); len(s) != 8 {
		t.Errorf("%x: not four bytes and their sum", s)
	}
}

// ---- P11.2 (Get)

// model reads bytes as the document's words go, one field behind the other.
type model struct {
	s  string
	at int
	e  api.Errno
}

func (m *model) fail(e api.Errno) {
	if m.e == api.OK {
		m.e = e
	}
}

func (m *model) number() int {
	if m.e != api.OK {
		return 0
	}
	n, used := binary.Varint([]byte(m.s[m.at:min(len(m.s), m.at+10)]))
	switch {
	case used < 0 || used == 0 && len(m.s)-m.at >= 10 || used > 1 && m.s[m.at+used-1] == 0:
		m.fail(api.ErrForm)
	case used == 0:
		m.fail(api.ErrShort)
	default:
		m.at += used
		return int(n)
	}
	return 0
}

func (m *model) text() string {
	n := m.number()
	switch {
	case m.e != api.OK:
	case n < 0:
		m.fail(api.ErrForm)
	case n > 4096:
		m.fail(api.ErrBig)
	case n > len(m.s)-m.at:
		m.fail(api.ErrShort)
	default:
		m.at += n
		return m.s[m.at-n : m.at]
	}
	return ""
}

// list reads so many items at most; if there are more of them, or less than none, nobody reads these.
func list[T any](m *model, most int, item func() T) []T {
	n := m.number()
	if n < 0 || n > most {
		m.fail(api.ErrForm)
		return nil
	}
	var l []T
	for range n {
		l = append(l, item())
	}
	return l
}

// part is what codec reads as one: behind its fields it tells if it may not be laid.
func part[T any](m *model, v T, put func(T) (string, api.Errno)) T {
	if _, e := put(v); e != api.OK {
		m.fail(api.ErrForm)
	}
	return v
}

func (m *model) values(most int) []int { return list(m, most, m.number) }
func (m *model) cmd() api.Cmd {
	return part(m, api.Cmd{Client: m.number(), Seq: m.number(), Stream: m.text(), Rule: m.number(), Args: m.values(4), Expect: m.number()}, codec.PutCmd)
}
func (m *model) event() api.Event { return api.Event{At: m.number(), Vars: m.values(6)} }
func (m *model) item() api.Item {
	return api.Item{Stream: m.text(), State: api.State{At: m.number(), Version: m.number(), Vars: m.values(6)}}
}
func (m *model) verdict() api.Verdict { return api.Verdict{Seq: m.number(), Code: m.number()} }
func (m *model) entry() api.Entry {
	return api.Entry{Index: m.number(), Stream: m.text(), Events: part(m, list(m, 3, m.event), codec.PutEvents), Seq: m.number(), Code: m.number()}
}

func (m *model) frame() (f api.Frame) {
	if f.Kind = m.number(); f.Kind < 1 || f.Kind > 5 {
		m.fail(api.ErrForm)
	}
	f.Client, f.Epoch = m.number(), m.number()
	switch f.Kind {
	case 1:
		f.From, f.To, f.Filter = m.number(), m.number(), part(m, list(m, 8, m.text), codec.PutFilter)
	case 2:
		f.Cmds = list(m, 8, m.cmd)
	case 3:
		f.To = m.number()
	case 4:
		f.From, f.To, f.Entries = m.number(), m.number(), list(m, 16, m.entry)
	case 5:
		f.To, f.Items = m.number(), part(m, list(m, 64, m.item), codec.PutItems)
		f.Verdicts = part(m, list(m, 32, m.verdict), codec.PutVerdicts)
	}
	return f
}

// testGet holds what is got of a body that is sealed against the model: the frame, if Put lays it as these bytes.
func testGet(t *testing.T, body string) api.Errno {
	t.Helper()
	m := &model{s: body}
	want := m.frame()
	if m.e == api.OK && m.at < len(body) {
		m.fail(api.ErrForm)
	}
	if !right(want) {
		m.fail(api.ErrForm)
	}
	if m.e != api.OK {
		want = api.Frame{}
	}
	f, e := frames.Get(seal(body))
	if e != m.e || !equal(f, want) || e != api.OK && !reflect.DeepEqual(f, api.Frame{}) {
		t.Fatalf("%.300x: %.300v, %v; not %.300v, %v", body, f, e, want, m.e)
	}
	return e
}

func TestGet(t *testing.T) {
	for i, f := range goodFrames() {
		s := body(f)
		if got, e := frames.Get(seal(s)); !equal(got, f) || e != api.OK {
			t.Errorf("good %d: %.200v: %.200v, %v", i, f, got, e)
		}
		for end := range min(len(s), 200) {
			if e := testGet(t, s[:end]); e != api.ErrShort {
				t.Errorf("good %d: %.200v, %d of %d bytes: %v", i, f, end, len(s), e)
			}
		}
		for _, behind := range []string{"\x00", "\x80", "\xff\xff", s, seal(s), strings.Repeat("\x80", 12)} {
			if e := testGet(t, s+behind); e != api.ErrForm {
				t.Errorf("good %d: %.200v, and %.20x: %v", i, f, behind, e)
			}
		}
	}
	for i, f := range badFrames() {
		if e := testGet(t, body(f)); e != api.ErrForm && e != api.ErrBig {
			t.Errorf("bad %d: %.200v: %v", i, f, e)
		}
	}
}

// TestGetUnopened: what check.Open doesn't open is no frame, whatever stands there.
func TestGetUnopened(t *testing.T) {
	right, _ := frames.Put(ack())
	for _, c := range []struct {
		s string
		e api.Errno
	}{
		{"", api.ErrShort}, {"\x00", api.ErrShort}, {"\x06\x02\x04", api.ErrShort}, {"\x00\x00\x00\x00", api.ErrShort}, {seal(""), api.ErrShort},
		{"\x06\x02\x04\x06", api.ErrSum}, {"\x01\x00\x00\x00", api.ErrSum}, {right[:len(right)-1], api.ErrSum}, {right + "\x00", api.ErrSum}, {right[1:], api.ErrSum},
		{body(ack()) + "\x00\x00\x00\x00", api.ErrSum}, {"\x00" + right, api.ErrSum}, {right + right, api.ErrSum}, {strings.Repeat("\xff", 1<<16), api.ErrSum},
	} {
		if f, e := frames.Get(c.s); e != c.e || !reflect.DeepEqual(f, api.Frame{}) {
			t.Errorf("%.40x: %v, %v; not %v", c.s, f, e, c.e)
		}
	}
}

// TestFirstError: of several errors the first one is told.
func TestFirstError(t *testing.T) {
	long, big := strings.Repeat("\x80", 9)+"\x02", "\x82\x40" // no number; the length of a text that is too long
	cmd := bytesOf(flatCmd(numbered(1, 2)[0])...)
	for i, c := range []struct {
		s string
		e api.Errno
	}{
		// The kind.
		{"", api.ErrShort}, {"\x80", api.ErrShort}, {long, api.ErrForm}, {"\x80\x00", api.ErrForm}, {"\x86\x00\x02\x04\x06", api.ErrForm},
		{"\x00", api.ErrForm}, {"\x0c", api.ErrForm}, {"\x01", api.ErrForm}, {"\x03", api.ErrForm}, {bytesOf(math.MaxInt), api.ErrForm}, {bytesOf(math.MinInt), api.ErrForm},
		{"\x00\x02\x04\x06", api.ErrForm}, {"\x0c" + big, api.ErrForm}, {"\x02", api.ErrShort}, {"\x0a", api.ErrShort},
		// Client and epoch: numbers, wrong ones behind all that can't be read.
		{"\x06\x80", api.ErrShort}, {"\x06" + long, api.ErrForm}, {"\x06\x0c", api.ErrShort}, {"\x06\x0c\x04", api.ErrShort}, {"\x06\x0c\x04\x06", api.ErrForm}, {"\x06\x01\x04\x06", api.ErrForm},
		{"\x06\x02\x00", api.ErrShort}, {"\x06\x02\x00\x06", api.ErrForm}, {"\x06\x02\x04", api.ErrShort}, {"\x06\x02\x04\x01", api.ErrForm}, {"\x06\x02\x04\x06\x00", api.ErrForm},
		// A greeting.
		{"\x02\x02\x04\x01\x00", api.ErrShort}, {"\x02\x02\x04\x06\x02\x10", api.ErrShort}, {"\x02\x02\x04\x06\x02\x12", api.ErrForm}, {"\x02\x02\x04\x06\x02\x01", api.ErrForm},
		{"\x02\x02\x04\x06\x02\x04\x02A", api.ErrShort}, {"\x02\x02\x04\x06\x02\x04\x02A" + big, api.ErrBig}, {"\x02\x02\x04\x06\x02\x02\x02A", api.ErrForm}, {"\x02\x02\x04\x06\x00\x02" + big, api.ErrBig},
		{"\x02\x02\x04\x06\x02\x82\x04", api.ErrForm}, {"\x02\x02\x04\x06\x02\x02\x01", api.ErrForm}, {"\x02\x02\x04\x06\x02\x02\x02a", api.OK},
		// Commands: their number ahead of all.
		{"\x04\x02\x04\x00", api.ErrForm}, {"\x04\x02\x04\x10", api.ErrShort}, {"\x04\x02\x04\x12", api.ErrForm}, {"\x04\x02\x04\x01", api.ErrForm}, {"\x04\x02\x04" + bytesOf(math.MaxInt), api.ErrForm},
		{"\x04\x02\x04\x02" + cmd, api.OK}, {"\x04\x02\x04\x04" + cmd, api.ErrShort}, {"\x04\x02\x04\x04" + cmd + cmd, api.ErrForm}, {"\x04\x04\x04\x02" + cmd, api.ErrForm}, {"\x04\x04\x04\x04" + cmd, api.ErrShort},
		{"\x04\x02\x04\x02\x02\x04" + big, api.ErrBig}, {"\x04\x02\x04\x02\x02\x00" + big, api.ErrBig}, {"\x04\x02\x04\x02\x02\x04\x02a\x00\x0a", api.ErrForm}, {"\x04\x02\x04\x06" + cmd + "\x02\x02" + big, api.ErrBig},
		// Entries: an entry's name may be any text until all is read.
		{"\x08\x02\x04\x06\x12\x20", api.ErrShort}, {"\x08\x02\x04\x06\x12\x22", api.ErrForm}, {"\x08\x02\x04\x06\x12\x01", api.ErrForm}, {"\x08\x02\x04\x06\x12\x02\x06" + big, api.ErrBig}, {"\x08\x02\x04\x06\x12\x02\x06\x01", api.ErrForm},
		{"\x08\x02\x04\x06\x12\x02\x06\x02A\x00\x00", api.ErrShort}, {"\x08\x02\x04\x06\x12\x02\x06\x02A\x00\x02\x00", api.ErrForm}, {"\x08\x02\x04\x06\x12\x02\x06\x02a\x06", api.ErrShort}, {"\x08\x02\x04\x06\x12\x02\x06\x02a\x08", api.ErrForm},
		{"\x08\x02\x04\x12\x06\x02\x06\x00\x00\x02", api.ErrShort}, {"\x08\x02\x04\x12\x06\x00", api.ErrForm}, {"\x08\x02\x04\x06\x12\x04\x08\x00\x00\x02\x00\x06" + big, api.ErrBig}, {"\x08\x02\x04\x06\x12\x02\x06\x00\x00\x02\x00", api.OK},
		// All anew.
		{"\x0a\x02\x04\x01\x80\x01", api.ErrShort}, {"\x0a\x02\x04\x06\x82\x01", api.ErrForm}, {"\x0a\x02\x04\x06\x01", api.ErrForm}, {"\x0a\x02\x04\x06\x02" + big, api.ErrBig}, {"\x0a\x02\x04\x06\x00\x40", api.ErrShort},
		{"\x0a\x02\x04\x06\x00\x42", api.ErrForm}, {"\x0a\x02\x04\x06\x00\x01", api.ErrForm}, {"\x0a\x02\x04\x01\x00", api.ErrShort}, {"\x0a\x02\x04\x06\x00\x04\x04\x00\x04", api.ErrShort}, {"\x0a\x02\x04\x06\x00\x04\x04\x00\x04\x00", api.ErrForm},
		{"\x0a\x02\x04\x06\x00\x00", api.OK},
		// Of what codec reads codec's error is told: it may not be laid, ahead of what stands behind it.
		{"\x04\x02\x04\x04" + bytesOf(1, 0, "a", 0, 0, 0), api.ErrForm}, {"\x08\x02\x04\x06\x12\x02\x06\x02a\x02\x10\x00", api.ErrForm}, {"\x0a\x02\x04\x06\x02\x02A\x00\x00\x00", api.ErrForm},
	} {
		if e := testGet(t, c.s); e != c.e {
			t.Errorf("%d: %.40x: %v, not %v", i, c.s, e, c.e)
		}
	}
}

// TestGetAnyBytes: short bodies of all sorts, and others with a few bytes changed; whatever is got is put as the very bytes.
func TestGetAnyBytes(t *testing.T) {
	right := 0
	get := func(s string) {
		if testGet(t, s) != api.OK {
			return
		}
		right++
		f, _ := frames.Get(seal(s))
		if laid, e := frames.Put(f); laid != seal(s) || e != api.OK {
			t.Fatalf("%x: %v: laid as %x, %v", s, f, laid, e)
		}
	}
	for _, head := range []string{"", "\x02\x02\x04", "\x04\x02\x04\x02\x02", "\x06\x02", "\x08\x02\x04\x00\x04", "\x08\x02\x04\x00\x04\x02\x02\x02a", "\x0a\x02\x04"} {
		for _, s := range texts("\x00\x01\x02\x04\x06a\x80", 5) {
			get(head + s)
		}
	}
	source := rand.New(rand.NewSource(1))
	var all []string
	for _, f := range slices.Concat(goodFrames(), badFrames()) {
		if s := body(f); len(s) < 600 {
			all = append(all, s)
		}
	}
	for range 60000 {
		s := []byte(all[source.Intn(len(all))])
		for range 1 + source.Intn(2) {
			place, b := source.Intn(len(s)), byte(source.Intn(256))
			switch source.Intn(4) {
			case 0:
				s[place] = b
			case 1:
				s[place] ^= 1 << source.Intn(8)
			case 2:
				s = slices.Insert(s, place, b)
			default:
				s = append(slices.Delete(s, place, place+1), b)
			}
		}
		get(string(s))
	}
	if right < 1000 {
		t.Errorf("only %d were frames", right)
	}
}

// texts: all of at most so many bytes of these.
func texts(alphabet string, most int) []string {
	all, longest := []string{""}, []string{""}
	for range most {
		var next []string
		for _, s := range longest {
			for i := range len(alphabet) {
				next = append(next, s+alphabet[i:i+1])
			}
		}
		all, longest = append(all, next...), next
	}
	return all
}

// ---- P11.3 (Same)

// full has something in every field, as no frame may.
func full() api.Frame {
	f := hello()
	f.Cmds, f.Entries, f.Items, f.Verdicts = cmds().Cmds, batch().Entries, reset().Items, reset().Verdicts
	return f
}

// touched is what becomes of a value if one number or text in it is changed, or one of its lists is longer, shorter or turned around: each such change alone.
func touched(v reflect.Value, again func()) {
	switch v.Kind() {
	case reflect.Int:
		was := v.Int()
		for _, n := range []int64{was + 1, was - 1, -was - 1, was + 1<<32, math.MinInt, math.MaxInt} {
			v.SetInt(n)
			again()
		}
		v.SetInt(was)
	case reflect.String:
		was := v.String()
		for _, s := range []string{was + "a", "b" + was, was + "\x00", was[min(1, len(was)):], strings.ToUpper(was)} {
			if s != was {
				v.SetString(s)
				again()
			}
		}
		v.SetString(was)
	case reflect.Struct:
		for i := range v.NumField() {
			touched(v.Field(i), again)
		}
	case reflect.Slice:
		was := v.Interface()
		for i := range v.Len() {
			touched(v.Index(i), again)
		}
		v.Set(reflect.Append(v, reflect.Zero(v.Type().Elem())))
		again()
		v.Set(reflect.ValueOf(was))
		if v.Len() == 0 {
			return
		}
		for _, part := range []reflect.Value{v.Slice(0, v.Len()-1), v.Slice(1, v.Len()), v.Slice(0, 0), reflect.AppendSlice(v.Slice3(0, v.Len(), v.Len()), v)} {
			v.Set(part)
			again()
			v.Set(reflect.ValueOf(was))
		}
		if v.Len() > 1 {
			turned := reflect.AppendSlice(v.Slice3(v.Len()-1, v.Len(), v.Len()), v.Slice(0, v.Len()-1))
			v.Set(turned)
			again()
			v.Set(reflect.ValueOf(was))
		}
	}
}

func TestSame(t *testing.T) {
	all := []func() api.Frame{full, func() api.Frame { return api.Frame{} }}
	for _, good := range append(all, kinds()...) {
		f, was := good(), good()
		if !frames.Same(f, was) || !frames.Same(f, f) || !frames.Same(f, plain(f)) {
			t.Errorf("%v is not the same", f)
		}
		changes := 0
		touched(reflect.ValueOf(&f).Elem(), func() {
			changes++
			if frames.Same(f, was) || frames.Same(was, f) || !frames.Same(f, plain(f)) {
				t.Errorf("%v and %v: the same?", f, was)
			}
		})
		if changes < 30 {
			t.Errorf("%v: only %d changes", f, changes)
		}
		if !frames.Same(f, was) {
			t.Errorf("%v: not the same any more", f)
		}
	}
}

func TestSameOfEmptyLists(t *testing.T) {
	f := api.Frame{Filter: []string{}, Cmds: []api.Cmd{}, Entries: []api.Entry{}, Items: []api.Item{}, Verdicts: []api.Verdict{}}
	if !frames.Same(f, api.Frame{}) || !frames.Same(api.Frame{}, f) || !frames.Same(f, f) {
		t.Error("none is not the same as empty")
	}
	a := api.Frame{Cmds: []api.Cmd{{Args: []int{}}}, Entries: []api.Entry{{Events: []api.Event{}}, {Events: []api.Event{{Vars: []int{}}}}}, Items: []api.Item{{State: api.State{Vars: []int{}}}}}
	b := api.Frame{Cmds: []api.Cmd{{}}, Entries: []api.Entry{{}, {Events: []api.Event{{}}}}, Items: []api.Item{{}}}
	if !frames.Same(a, b) || !frames.Same(b, a) {
		t.Error("within others none is not the same as empty")
	}
}

// TestSameOfAll: of all frames each is the same as those alone that are laid as it is.
func TestSameOfAll(t *testing.T) {
	all := goodFrames()
	laid := make([]string, len(all))
	for i, f := range all {
		laid[i] = body(f)
	}
	for i, a := range all {
		for k, b := range all {
			if got := frames.Same(a, b); got != (laid[i] == laid[k]) {
				t.Fatalf("%.200v and %.200v: %v", a, b, got)
			}
		}
	}
}

// ---- P11.4 (there and back)

// chance is a frame by chance that may be.
func chance(source *rand.Rand) api.Frame {
	number := func() int { return min(top, source.Intn(2<<source.Intn(41))) }
	values := func(most int) []int {
		l := make([]int, source.Intn(most+1))
		for i := range l {
			l[i] = number() * (1 - 2*source.Intn(2))
		}
		return l
	}
	name := func() string {
		return []string{"a", "b/c", "order/17", "a/b/c/d", strings.Repeat("z", 32)}[source.Intn(5)]
	}
	f := api.Frame{Kind: 1 + source.Intn(5), Client: source.Intn(6), Epoch: max(1, number())}
	switch f.Kind {
	case api.FHello:
		f.From, f.To = number(), max(1, number())
		for range source.Intn(9) {
			f.Filter = append(f.Filter, []string{name(), "*", "**", "a/*", "*/*/**"}[source.Intn(5)])
		}
	case api.FCmds:
		seq := source.Intn(1 << source.Intn(39))
		for range 1 + source.Intn(8) {
			seq += 1 + source.Intn(99)
			f.Cmds = append(f.Cmds, api.Cmd{Client: f.Client, Seq: seq, Stream: name(), Rule: source.Intn(12), Args: values(4), Expect: number() - 1})
		}
	case api.FAck:
		f.To = number()
	case api.FBatch:
		f.From = source.Intn(1 << source.Intn(39))
		f.To = f.From
		for range source.Intn(17) {
			x := api.Entry{Index: f.To + source.Intn(9), Seq: number()}
			for range source.Intn(4) {
				x.Stream, x.Events = name(), append(x.Events, api.Event{At: source.Intn(8), Vars: values(6)})
			}
			if len(x.Events) == 0 {
				x.Seq, x.Code = max(1, x.Seq), source.Intn(64)
			}
			f.Entries, f.To = append(f.Entries, x), x.Index+1
		}
		f.To += source.Intn(3)
	case api.FReset:
		f.To, f.Items, f.Verdicts = number(), streams(source.Intn(65)), told(source.Intn(33))
		for i := range f.Items {
			f.Items[i].State = api.State{At: source.Intn(8), Version: number(), Vars: values(6)}
		}
	}
	return f
}

func TestThereAndBack(t *testing.T) {
	source := rand.New(rand.NewSource(2))
	all := goodFrames()
	for range 5000 {
		all = append(all, chance(source))
	}
	for _, f := range all {
		s, e := frames.Put(f)
		if s != seal(body(f)) || e != api.OK {
			t.Fatalf("%v: %x, %v", f, s, e)
		}
		got, e := frames.Get(s)
		if e != api.OK || !equal(got, f) || !frames.Same(got, f) {
			t.Fatalf("%v: %v, %v", f, got, e)
		}
		if again, e := frames.Put(got); again != s || e != api.OK {
			t.Fatalf("%v: %x, and again %x, %v", f, s, again, e)
		}
	}
}

// ---- P11.5 (spoilt)

// turned turns the bits of a pattern in bytes, from a bit on (of each byte the lowest first).
func turned(s string, bit int, pattern uint32) string {
	b := []byte(s)
	for i := range 32 {
		if pattern>>i&1 == 1 && (bit+i)/8 < len(b) {
			b[(bit+i)/8] ^= 1 << ((bit + i) % 8)
		}
	}
	return string(b)
}

func TestSpoilt(t *testing.T) {
	source := rand.New(rand.NewSource(3))
	for _, good := range kinds() {
		s, _ := frames.Put(good())
		for bit := range len(s) * 8 {
			patterns := []uint32{1, 3, 0x80000001, 0xffffffff, 0x82F63B79, 0x05EC76F1, 0xffff, 0xff}
			for range 60 {
				patterns = append(patterns, source.Uint32()|1)
			}
			for _, p := range patterns {
				if f, e := frames.Get(turned(s, bit, p)); e != api.ErrSum || !reflect.DeepEqual(f, api.Frame{}) {
					t.Fatalf("%x, from bit %d on %x turned: %v, %v", s, bit, p, f, e)
				}
			}
		}
	}
}

// ---- R1, R3: nothing panics; what comes in is left as it is, what is told is new.

func TestHugeOnes(t *testing.T) {
	const n = 1 << 18
	name, many := strings.Repeat("a", 1<<22), make([]int, n)
	for i, f := range []api.Frame{
		{Kind: 1, Epoch: 1, To: 1, Filter: make([]string, n)}, {Kind: 1, Epoch: 1, To: 1, Filter: []string{name}},
		{Kind: 2, Epoch: 1, Cmds: make([]api.Cmd, n)}, {Kind: 2, Epoch: 1, Cmds: []api.Cmd{{Seq: 1, Stream: name, Args: many}}},
		{Kind: 4, Epoch: 1, To: top, Entries: make([]api.Entry, n)}, {Kind: 4, Epoch: 1, To: 1, Entries: []api.Entry{{Stream: name, Events: make([]api.Event, n)}}},
		{Kind: 4, Epoch: 1, To: 1, Entries: []api.Entry{{Stream: "a", Events: []api.Event{{Vars: many}}}}},
		{Kind: 5, Epoch: 1, Items: make([]api.Item, n)}, {Kind: 5, Epoch: 1, Verdicts: make([]api.Verdict, n)}, {Kind: 5, Epoch: 1, Items: []api.Item{{Stream: name, State: api.State{Vars: many}}}},
	} {
		if s, e := frames.Put(f); s != "" || e != api.ErrArg {
			t.Errorf("%d: %d bytes, %v", i, len(s), e)
		}
		if !frames.Same(f, f) || frames.Same(f, ack()) {
			t.Errorf("%d: not the same", i)
		}
	}
	for _, c := range []struct {
		s string
		e api.Errno
	}{
		{bytesOf(1, 1, 1, 1, 1, 1, name), api.ErrBig}, {bytesOf(4, 1, 1, 1, 1, 1, 1, name), api.ErrBig}, {bytesOf(3, 1, 1, 1) + name, api.ErrForm}, {name, api.ErrForm},
	} {
		if f, e := frames.Get(seal(c.s)); e != c.e || !reflect.DeepEqual(f, api.Frame{}) {
			t.Errorf("%.20x: %v, not %v", c.s, e, c.e)
		}
	}
}

// TestArgumentsStay: neither lists nor the room behind them are changed.
func TestArgumentsStay(t *testing.T) {
	for _, good := range append(kinds(), full) {
		f, was := good(), good()
		f.Filter, f.Verdicts = spare(f.Filter, "zz"), spare(f.Verdicts, api.Verdict{Seq: 77})
		f.Cmds, f.Entries, f.Items = spare(f.Cmds, api.Cmd{Seq: 77}), spare(f.Entries, api.Entry{Index: 77}), spare(f.Items, api.Item{Stream: "zz"})
		for i := range f.Cmds {
			f.Cmds[i].Args = spare(f.Cmds[i].Args, 77)
		}
		for i := range f.Items {
			f.Items[i].State.Vars = spare(f.Items[i].State.Vars, 77)
		}
		frames.Put(f)
		frames.Same(f, was)
		if !equal(f, was) {
			t.Errorf("%v, not %v", f, was)
		}
		if behind(f.Filter) != "zz" || behind(f.Cmds).Seq != 77 || behind(f.Entries).Index != 77 || behind(f.Items).Stream != "zz" || behind(f.Verdicts).Seq != 77 {
			t.Errorf("%v: the room behind a list was changed", f)
		}
		for _, c := range f.Cmds {
			if behind(c.Args) != 77 {
				t.Errorf("%v: the room behind arguments was changed", c)
			}
		}
	}
}

// spare is the same list, with room for one more, in which something stands.
func spare[T any](l []T, last T) []T {
	return append(slices.Clip(l), last)[:len(l)]
}

func behind[T any](l []T) T { return l[:len(l)+1][len(l)] }

func TestAnswersAreNew(t *testing.T) {
	within := func(part, s string) bool {
		p, start := uintptr(unsafe.Pointer(unsafe.StringData(part))), uintptr(unsafe.Pointer(unsafe.StringData(s)))
		return p >= start && p < start+uintptr(len(s))
	}
	for _, good := range kinds() {
		s, _ := frames.Put(good())
		f, _ := frames.Get(s)
		second, _ := frames.Get(s)
		for _, part := range slices.Concat(f.Filter, names(f)) {
			if within(part, s) {
				t.Errorf("%v: a text is a piece of what came in", f)
			}
		}
		// Whatever is changed in one answer, or behind one of its lists, the other lists of it and the other answer stay.
		touched(reflect.ValueOf(&f).Elem(), func() {
			if !equal(second, good()) {
				t.Errorf("%v: two answers share something", second)
			}
		})
		for _, l := range values(f) {
			_ = append(l, 77, 77, 77)
		}
		if !equal(f, good()) {
			t.Errorf("%v: lists of one answer share their room", f)
		}
	}
}

// names: all streams that a frame names.
func names(f api.Frame) []string {
	var l []string
	for _, c := range f.Cmds {
		l = append(l, c.Stream)
	}
	for _, x := range f.Entries {
		if x.Stream != "" {
			l = append(l, x.Stream)
		}
	}
	for _, i := range f.Items {
		l = append(l, i.Stream)
	}
	return l
}

// values: all lists of numbers that a frame has.
func values(f api.Frame) [][]int {
	var l [][]int
	for _, c := range f.Cmds {
		l = append(l, c.Args)
	}
	for _, x := range f.Entries {
		for _, e := range x.Events {
			l = append(l, e.Vars)
		}
	}
	for _, i := range f.Items {
		l = append(l, i.State.Vars)
	}
	return l
}
