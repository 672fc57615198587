package codec_test

import (
	"encoding/binary"
	"math"
	"math/rand"
	"reflect"
	"slices"
	"strconv"
	"strings"
	"testing"
	"unsafe"

	"surmise/api"
	"surmise/codec"
	"surmise/filter"
	"surmise/pattern"
)

const top = 1 << 40

// ---- The document's words as a table: of what is laid the fields, and what may stand in each

// field is a number from least to most; or a text that name takes; or a list.
type field struct {
	least, most int
	name        func(string) bool
	list        *list
}

// list has at most so many items, each of these fields; if it rises, by the first ones.
type list struct {
	most  int
	item  []field
	rises bool
}

// sort is one of the six sorts of what is laid.
type sort[T any] struct {
	put    func(T) (string, api.Errno)
	read   func(string, int) (T, int, api.Errno)
	flat   func(T) []any // its numbers and texts in order, the numbers of items ahead of them
	fields []field
	whole  func([]any) bool // what is asked of all fields together
	good   func() []T
	bad    func() []T
}

func number(least, most int) field { return field{least: least, most: most} }
func text(name func(string) bool) field {
	return field{name: name}
}
func listOf(most int, rises bool, item ...field) field {
	return field{list: &list{most, item, rises}}
}

func client() field  { return number(0, 5) }
func seq() field     { return number(1, top) }
func code() field    { return number(0, 63) }
func version() field { return number(0, top) }
func values(most int) field {
	return listOf(most, false, number(-top, top))
}
func events() field { return listOf(3, false, number(0, 7), values(6)) }

func always([]any) bool { return true }

// walk reads by the table: the fields up to the first that can't be read; its error; and whether all that was read may stand there. (Rising is held against what stands in the list ahead.)
func walk(s string, at int, fields []field) (got []any, next int, e api.Errno, may bool) {
	next, may = at, true
	for _, f := range fields {
		switch {
		case f.list != nil:
			count, place, errno := readNumber(s, next)
			if errno != api.OK {
				return nil, 0, errno, false
			}
			if count < 0 || count > f.list.most {
				return nil, 0, api.ErrForm, false
			}
			got, next = append(got, count), place
			var ahead any
			for i := range count {
				item, place, errno, right := walk(s, next, f.list.item)
				if errno != api.OK {
					return nil, 0, errno, false
				}
				may = may && right && (i == 0 || !f.list.rises || isAhead(ahead, item[0]))
				got, next, ahead = append(got, item...), place, item[0]
			}
		case f.name != nil:
			length, place, errno := readNumber(s, next)
			switch {
			case errno != api.OK:
			case length < 0:
				errno = api.ErrForm
			case length > 4096:
				errno = api.ErrBig
			case length > len(s)-place:
				errno = api.ErrShort
			}
			if errno != api.OK {
				return nil, 0, errno, false
			}
			may = may && f.name(s[place:place+length])
			got, next = append(got, s[place:place+length]), place+length
		default:
			n, place, errno := readNumber(s, next)
			if errno != api.OK {
				return nil, 0, errno, false
			}
			may = may && n >= f.least && n <= f.most
			got, next = append(got, n), place
		}
	}
	return got, next, api.OK, may
}

func isAhead(a, b any) bool {
	if s, ok := a.(string); ok {
		return s < b.(string)
	}
	return a.(int) < b.(int)
}

// readNumber reads the bytes that the library's varints have too, but no number in more bytes than it needs.
func readNumber(s string, at int) (int, int, api.Errno) {
	if at < 0 || at > len(s) {
		return 0, 0, api.ErrRange
	}
	n, used := binary.Varint([]byte(s[at:min(len(s), at+10)]))
	switch {
	case used < 0 || len(s)-at >= 10 && used == 0:
		return 0, 0, api.ErrForm
	case used == 0:
		return 0, 0, api.ErrShort
	case used > 1 && s[at+used-1] == 0:
		return 0, 0, api.ErrForm
	}
	return int(n), at + used, api.OK
}

// bytesOf lays numbers and texts one behind the other, whether they may be or not.
func bytesOf(flat ...any) string {
	var b []byte
	for _, f := range flat {
		switch v := f.(type) {
		case int:
			b = binary.AppendVarint(b, int64(v))
		case string:
			b = append(binary.AppendVarint(b, int64(len(v))), v...)
		}
	}
	return string(b)
}

func (k sort[T]) wanted(s string, at int) ([]any, int, api.Errno) {
	got, next, e, may := walk(s, at, k.fields)
	if e == api.OK && !(may && k.whole(got)) {
		e = api.ErrForm
	}
	if e != api.OK {
		return nil, 0, e
	}
	return got, next, e
}

// ---- What is laid: all six sorts, with what may be laid and what may not

func flatValues(l []int) []any {
	flat := []any{len(l)}
	for _, n := range l {
		flat = append(flat, n)
	}
	return flat
}

func flatCmd(c api.Cmd) []any {
	return append(append([]any{c.Client, c.Seq, c.Stream, c.Rule}, flatValues(c.Args)...), c.Expect)
}

func flatEvents(l []api.Event) []any {
	flat := []any{len(l)}
	for _, e := range l {
		flat = append(append(flat, e.At), flatValues(e.Vars)...)
	}
	return flat
}

func flatRecord(r api.Record) []any {
	return append([]any{r.Client, r.Seq, r.Stream, r.Code}, flatEvents(r.Events)...)
}

func flatItems(l []api.Item) []any {
	flat := []any{len(l)}
	for _, i := range l {
		flat = append(append(flat, i.Stream, i.State.At, i.State.Version), flatValues(i.State.Vars)...)
	}
	return flat
}

func flatVerdicts(l []api.Verdict) []any {
	flat := []any{len(l)}
	for _, v := range l {
		flat = append(flat, v.Seq, v.Code)
	}
	return flat
}

func flatFilter(l []string) []any {
	flat := []any{len(l)}
	for _, p := range l {
		flat = append(flat, p)
	}
	return flat
}

func cmds() sort[api.Cmd] {
	return sort[api.Cmd]{
		codec.PutCmd, codec.ReadCmd, flatCmd,
		[]field{client(), seq(), text(pattern.Stream), number(0, 11), values(4), number(-1, top)}, always,
		goodCmds, badCmds,
	}
}

func records() sort[api.Record] {
	noneRefused := func(flat []any) bool { return flat[3] == 0 || flat[4] == 0 }
	return sort[api.Record]{
		codec.PutRecord, codec.ReadRecord, flatRecord,
		[]field{client(), seq(), text(pattern.Stream), code(), events()}, noneRefused,
		goodRecords, badRecords,
	}
}

func rows() sort[[]api.Event] {
	return sort[[]api.Event]{codec.PutEvents, codec.ReadEvents, flatEvents, []field{events()}, always, goodEvents, badEvents}
}

func items() sort[[]api.Item] {
	return sort[[]api.Item]{
		codec.PutItems, codec.ReadItems, flatItems,
		[]field{listOf(64, true, text(pattern.Stream), number(0, 7), version(), values(6))}, always,
		goodItems, badItems,
	}
}

func verdicts() sort[[]api.Verdict] {
	return sort[[]api.Verdict]{codec.PutVerdicts, codec.ReadVerdicts, flatVerdicts, []field{listOf(32, true, seq(), code())}, always, goodVerdicts, badVerdicts}
}

func filters() sort[[]string] {
	return sort[[]string]{codec.PutFilter, codec.ReadFilter, flatFilter, []field{listOf(8, false, text(pattern.Pattern))}, always, goodFilters, badFilters}
}

// outside: numbers that are none from least to most, near it and far off.
func outside(least, most int) []int {
	return []int{least - 1, most + 1, least - 64, most + 64, math.MinInt, math.MaxInt}
}

func badNames() []string {
	return []string{
		"", "/", "a/", "/a", "a//b", "A", "a b", "\x00", "\xff", "*", "**", "a/*", "a/**", "a/b/c/d/e", strings.Repeat("a", 33),
		strings.Repeat("a", 4096), strings.Repeat("a", 4097), strings.Repeat("a/", 1<<19), " a", "a\n",
	}
}

func goodNames() []string {
	return []string{"a", "0", "-", "_", "z/9", "order/17", "a/b/c/d", strings.Repeat("a", 32), strings.Repeat("ab/", 3) + "c"}
}

// goodValues, badValues: numbers of so many at most that may be laid, and such as may not.
func goodValues(most int) [][]int {
	l := [][]int{nil, {}, {0}, {top}, {-top}, {-1}}
	for n := 1; n <= most; n++ {
		l = append(l, slices.Repeat([]int{63}, n), slices.Repeat([]int{-top}, n), slices.Repeat([]int{top}, n))
	}
	return append(l, []int{1, -2, 300, -top, 0, top - 1}[:most])
}

func badValues(most int) [][]int {
	l := [][]int{make([]int, most+1), make([]int, 2*most), make([]int, 256), make([]int, 257), make([]int, 1<<16)}
	for _, n := range outside(-top, top) {
		l = append(l, []int{n}, append(make([]int, most-1), n), append([]int{n}, make([]int, most-1)...))
	}
	return l
}

// changed: what each of some changes makes of a good one.
func changed[T, V any](l []T, good func() T, to []V, change func(*T, V)) []T {
	for _, v := range to {
		one := good()
		change(&one, v)
		l = append(l, one)
	}
	return l
}

func oneCmd() api.Cmd {
	return api.Cmd{Client: 1, Seq: 2, Stream: "a/b", Rule: 3, Args: []int{4, -5}, Expect: 6}
}

func goodCmds() []api.Cmd {
	l := []api.Cmd{oneCmd(), {Seq: 1, Stream: "a"}}
	l = changed(l, oneCmd, []int{0, 1, 2, 3, 4, 5}, func(c *api.Cmd, n int) { c.Client = n })
	l = changed(l, oneCmd, []int{1, 63, 64, top - 1, top}, func(c *api.Cmd, n int) { c.Seq = n })
	l = changed(l, oneCmd, goodNames(), func(c *api.Cmd, s string) { c.Stream = s })
	l = changed(l, oneCmd, []int{0, 1, 10, 11}, func(c *api.Cmd, n int) { c.Rule = n })
	l = changed(l, oneCmd, goodValues(4), func(c *api.Cmd, v []int) { c.Args = v })
	return changed(l, oneCmd, []int{-1, 0, 1, top - 1, top}, func(c *api.Cmd, n int) { c.Expect = n })
}

func badCmds() []api.Cmd {
	l := []api.Cmd{{}, {Seq: 1}, {Stream: "a"}}
	l = changed(l, oneCmd, outside(0, 5), func(c *api.Cmd, n int) { c.Client = n })
	l = changed(l, oneCmd, append(outside(1, top), 0), func(c *api.Cmd, n int) { c.Seq = n })
	l = changed(l, oneCmd, badNames(), func(c *api.Cmd, s string) { c.Stream = s })
	l = changed(l, oneCmd, outside(0, 11), func(c *api.Cmd, n int) { c.Rule = n })
	l = changed(l, oneCmd, badValues(4), func(c *api.Cmd, v []int) { c.Args = v })
	return changed(l, oneCmd, outside(-1, top), func(c *api.Cmd, n int) { c.Expect = n })
}

func goodEvents() [][]api.Event {
	l := [][]api.Event{nil, {}, {{}}, {{}, {}}, {{}, {}, {}}, {{At: 1, Vars: []int{1}}, {At: 2}, {At: 1, Vars: []int{2, 3}}}}
	for at := range 8 {
		l = append(l, []api.Event{{At: at}}, []api.Event{{}, {At: at}})
	}
	for _, v := range goodValues(6) {
		l = append(l, []api.Event{{Vars: v}}, []api.Event{{At: 7, Vars: v}, {At: 6, Vars: v}, {Vars: v}})
	}
	return l
}

func badEvents() [][]api.Event {
	l := [][]api.Event{make([]api.Event, 4), make([]api.Event, 63), make([]api.Event, 64), make([]api.Event, 257), make([]api.Event, 1<<16)}
	for _, at := range outside(0, 7) {
		l = append(l, []api.Event{{At: at}}, []api.Event{{}, {}, {At: at}}, []api.Event{{At: at}, {}, {}})
	}
	for _, v := range badValues(6) {
		l = append(l, []api.Event{{Vars: v}}, []api.Event{{}, {}, {Vars: v}}, []api.Event{{Vars: v}, {}})
	}
	return l
}

func oneRecord() api.Record {
	return api.Record{Client: 1, Seq: 2, Stream: "a/b", Events: []api.Event{{At: 2, Vars: []int{5, -1}}}}
}

func refusedRecord() api.Record { return api.Record{Client: 1, Seq: 2, Stream: "a/b", Code: 16} }

func goodRecords() []api.Record {
	l := []api.Record{oneRecord(), refusedRecord(), {Seq: 1, Stream: "a"}}
	l = changed(l, oneRecord, []int{0, 1, 2, 3, 4, 5}, func(r *api.Record, n int) { r.Client = n })
	l = changed(l, oneRecord, []int{1, 63, 64, top - 1, top}, func(r *api.Record, n int) { r.Seq = n })
	l = changed(l, oneRecord, goodNames(), func(r *api.Record, s string) { r.Stream = s })
	l = changed(l, refusedRecord, []int{0, 1, 2, 6, 7, 15, 16, 62, 63}, func(r *api.Record, n int) { r.Code = n })
	return changed(l, oneRecord, goodEvents(), func(r *api.Record, e []api.Event) { r.Events = e })
}

func badRecords() []api.Record {
	l := []api.Record{{}, {Seq: 1}, {Stream: "a"}}
	l = changed(l, oneRecord, outside(0, 5), func(r *api.Record, n int) { r.Client = n })
	l = changed(l, oneRecord, append(outside(1, top), 0), func(r *api.Record, n int) { r.Seq = n })
	l = changed(l, oneRecord, badNames(), func(r *api.Record, s string) { r.Stream = s })
	l = changed(l, refusedRecord, outside(0, 63), func(r *api.Record, n int) { r.Code = n })
	l = changed(l, oneRecord, badEvents(), func(r *api.Record, e []api.Event) { r.Events = e })
	// Of what was refused there are no events.
	l = changed(l, oneRecord, []int{1, 6, 16, 63}, func(r *api.Record, n int) { r.Code = n })
	return changed(l, refusedRecord, [][]api.Event{{{}}, {{}, {}, {}}, {{At: 7}}}, func(r *api.Record, e []api.Event) { r.Events = e })
}

// streams: so many items, rising by their names.
func streams(n int) []api.Item {
	l := make([]api.Item, n)
	for i := range l {
		l[i] = api.Item{Stream: "s/" + strconv.Itoa(1000+i), State: api.State{At: i % 8, Version: i * i, Vars: make([]int, i%7)}}
	}
	return l
}

func named(names ...string) []api.Item {
	l := make([]api.Item, len(names))
	for i, s := range names {
		l[i] = api.Item{Stream: s}
	}
	return l
}

func goodItems() [][]api.Item {
	l := [][]api.Item{nil, {}, streams(1), streams(2), streams(63), streams(64)}
	l = append(l, named("-", "0", "_", "a"), named("a", "a-b", "a/b", "aa"), named("a", "a/a", "a/a/a"), named("9", "a", "b"), named("10", "9"))
	for _, s := range goodNames() {
		l = append(l, named(s))
	}
	for n := range 8 {
		l = append(l, []api.Item{{Stream: "a", State: api.State{At: n}}})
	}
	for _, n := range []int{0, 1, 63, 64, top - 1, top} {
		l = append(l, []api.Item{{Stream: "a", State: api.State{Version: n}}})
	}
	for _, v := range goodValues(6) {
		l = append(l, []api.Item{{Stream: "a", State: api.State{At: 1, Version: 2, Vars: v}}, {Stream: "b", State: api.State{Vars: v}}})
	}
	return l
}

func badItems() [][]api.Item {
	l := [][]api.Item{{{}}, streams(65), streams(257), streams(3000)}
	l = append(l, named("a", "a"), named("b", "a"), named("a", "b", "b"), named("a", "b", "a"), named("a", "c", "b"), named("a/b", "a"), named("a", "_"), named("9", "10"), named("a/b", "a-b"))
	for _, s := range badNames() {
		l = append(l, named(s), named("0", s), []api.Item{{Stream: s, State: api.State{At: 1, Version: 2, Vars: []int{3}}}, {Stream: "zz"}})
	}
	var states []api.State
	for _, n := range outside(0, 7) {
		states = append(states, api.State{At: n})
	}
	for _, n := range outside(0, top) {
		states = append(states, api.State{Version: n})
	}
	for _, v := range badValues(6) {
		states = append(states, api.State{Vars: v})
	}
	for _, s := range states {
		l = append(l, []api.Item{{Stream: "a", State: s}}, []api.Item{{Stream: "a"}, {Stream: "b", State: s}}, []api.Item{{Stream: "a", State: s}, {Stream: "b"}})
	}
	return l
}

// told: so many verdicts, rising by their numbers.
func told(n int) []api.Verdict {
	l := make([]api.Verdict, n)
	for i := range l {
		l[i] = api.Verdict{Seq: 3*i + 1, Code: i % 64}
	}
	return l
}

func numbered(numbers ...int) []api.Verdict {
	l := make([]api.Verdict, len(numbers))
	for i, n := range numbers {
		l[i].Seq = n
	}
	return l
}

func goodVerdicts() [][]api.Verdict {
	l := [][]api.Verdict{nil, {}, told(1), told(2), told(31), told(32), numbered(1, 2, 3), numbered(1, top), numbered(top-1, top), numbered(9, 10)}
	for n := range 64 {
		l = append(l, []api.Verdict{{Seq: n + 1, Code: n}})
	}
	return l
}

func badVerdicts() [][]api.Verdict {
	l := [][]api.Verdict{{{}}, told(33), told(64), told(257), told(3000)}
	l = append(l, numbered(2, 2), numbered(2, 1), numbered(1, 2, 2), numbered(1, 3, 2), numbered(1, 2, 1), numbered(top, 1), numbered(top, top), numbered(0, 1), numbered(1, 0))
	for _, n := range append(outside(1, top), 0) {
		l = append(l, numbered(n), numbered(1, n), numbered(n, top))
	}
	for _, n := range outside(0, 63) {
		l = append(l, []api.Verdict{{Seq: 1, Code: n}}, []api.Verdict{{Seq: 1}, {Seq: 2, Code: n}}, []api.Verdict{{Seq: 1, Code: n}, {Seq: 2}})
	}
	return l
}

func goodFilters() [][]string {
	// A filter is laid as it is, and not its normal form.
	l := [][]string{nil, {}, {"b", "a"}, {"a", "a"}, {"**", "a", "*"}, slices.Repeat([]string{"a"}, 8), {"a", "b", "c", "d", "e", "f", "g", "h"}}
	for _, p := range append(goodNames(), "*", "**", "a/*", "*/b", "a/*/**", "*/*/*/*", "*/*/*/**", strings.Repeat("a", 29)+"/**") {
		l = append(l, []string{p}, []string{"a/*", p})
	}
	return l
}

func badFilters() [][]string {
	l := [][]string{slices.Repeat([]string{"a"}, 9), slices.Repeat([]string{"a"}, 64), slices.Repeat([]string{"a"}, 257), slices.Repeat([]string{""}, 3000), make([]string, 9)}
	for _, p := range badNames() {
		if pattern.Pattern(p) {
			continue
		}
		l = append(l, []string{p}, []string{"**", p}, []string{p, "**"}, append(slices.Repeat([]string{"b"}, 7), p))
	}
	for _, p := range []string{"***", "**/a", "a*", "a/**/b", strings.Repeat("a", 30) + "/**"} {
		l = append(l, []string{p}, []string{"a", p})
	}
	return l
}

// same: are all numbers and texts the same, in order?
func same(a, b []any) bool { return slices.Equal(a, b) }

// isZero: of a list that may be nil or empty.
func isZero(what any) bool {
	v := reflect.ValueOf(what)
	return v.IsZero() || v.Kind() == reflect.Slice && v.Len() == 0
}

// ---- P10.1 (Put)

func (k sort[T]) testPut(t *testing.T) {
	for i, v := range k.good() {
		laid, e := k.put(v)
		if want := bytesOf(k.flat(v)...); laid != want || e != api.OK {
			t.Errorf("good %d: %.80v: %.80x, %v; not %.80x", i, v, laid, e, want)
		}
	}
	for i, v := range k.bad() {
		if laid, e := k.put(v); laid != "" || e != api.ErrArg {
			t.Errorf("bad %d: %.80v: %.80x, %v", i, v, laid, e)
		}
	}
}

func TestPut(t *testing.T) {
	t.Run("cmd", cmds().testPut)
	t.Run("record", records().testPut)
	t.Run("events", rows().testPut)
	t.Run("items", items().testPut)
	t.Run("verdicts", verdicts().testPut)
	t.Run("filter", filters().testPut)
}

func TestBytes(t *testing.T) {
	check := func(what, got string, e api.Errno, want string) {
		t.Helper()
		if got != want || e != api.OK {
			t.Errorf("%s: %x, %v; not %x", what, got, e, want)
		}
	}
	// Example 1.
	laid, e := codec.PutCmd(api.Cmd{Client: 1, Seq: 2, Stream: "a", Rule: 0, Expect: -1})
	check("example", laid, e, "\x02\x04\x02a\x00\x00\x01")
	laid, e = codec.PutCmd(api.Cmd{Client: 5, Seq: 64, Stream: "a/b", Rule: 11, Args: []int{-1, 300}, Expect: 3})
	check("command", laid, e, "\x0a\x80\x01\x06a/b\x16\x04\x01\xd8\x04\x06")
	laid, e = codec.PutRecord(api.Record{Client: 1, Seq: 3, Stream: "x", Events: []api.Event{{At: 2, Vars: []int{5, -1}}, {At: 7}}})
	check("record", laid, e, "\x02\x06\x02x\x00\x04\x04\x04\x0a\x01\x0e\x00")
	laid, e = codec.PutRecord(api.Record{Client: 0, Seq: 1, Stream: "x", Code: 63})
	check("refused", laid, e, "\x00\x02\x02x\x7e\x00")
	laid, e = codec.PutEvents([]api.Event{{At: 1}, {At: 0, Vars: []int{1}}})
	check("events", laid, e, "\x04\x02\x00\x00\x02\x02")
	laid, e = codec.PutItems([]api.Item{{Stream: "a", State: api.State{At: 3, Version: 4, Vars: []int{-2}}}, {Stream: "b"}})
	check("items", laid, e, "\x04\x02a\x06\x08\x02\x03\x02b\x00\x00\x00")
	laid, e = codec.PutVerdicts([]api.Verdict{{Seq: 1, Code: 16}, {Seq: 3}})
	check("verdicts", laid, e, "\x04\x02\x20\x06\x00")
	laid, e = codec.PutFilter([]string{"b", "a/**"})
	check("filter", laid, e, "\x04\x02b\x08a/**")
	laid, e = codec.PutEvents(nil)
	check("no events", laid, e, "\x00")
	laid, e = codec.PutItems(nil)
	check("no items", laid, e, "\x00")
	laid, e = codec.PutVerdicts(nil)
	check("no verdicts", laid, e, "\x00")
	laid, e = codec.PutFilter(nil)
	check("no filter", laid, e, "\x00")
}

// TestFilterByItsOwnWord: what may be laid as a filter is what filter.Check finds nothing wrong with.
func TestFilterByItsOwnWord(t *testing.T) {
	source := rand.New(rand.NewSource(1))
	for range 3000 {
		l := make([]string, source.Intn(11))
		for i := range l {
			l[i] = []string{"a", "b/*", "**", "*", "a/**", "x/y", "z", "", "A"}[source.Intn(9-2*source.Intn(2))]
		}
		_, want := filter.Check(l)
		if _, e := codec.PutFilter(l); (e == api.OK) != (want == api.OK) {
			t.Fatalf("%q: %v, but filter.Check %v", l, e, want)
		}
	}
}

// ---- P10.2 (Read)

// testRead holds what is read at a place against the table.
func (k sort[T]) testRead(t *testing.T, s string, at int) api.Errno {
	t.Helper()
	flat, place, errno := k.wanted(s, at)
	what, next, e := k.read(s, at)
	if next != place || e != errno || e == api.OK && !same(k.flat(what), flat) || e != api.OK && !isZero(what) {
		t.Fatalf("%.200x at %d: %.200v, %d, %v; not %.200v, %d, %v", s, at, what, next, e, flat, place, errno)
	}
	return e
}

// testReads reads what may be laid and what may not, whole, and with an end that is missing.
func (k sort[T]) testReads(t *testing.T) {
	for _, v := range k.good() {
		laid := bytesOf(k.flat(v)...)
		if e := k.testRead(t, laid, 0); e != api.OK {
			t.Fatalf("%.80v: %v", v, e)
		}
		for end := range len(laid) {
			if e := k.testRead(t, laid[:end], 0); e != api.ErrShort {
				t.Fatalf("%.80v, %d of %d bytes: %v", v, end, len(laid), e)
			}
		}
	}
	for i, v := range k.bad() {
		laid := bytesOf(k.flat(v)...)
		if e := k.testRead(t, laid, 0); e != api.ErrForm && e != api.ErrBig {
			t.Fatalf("bad %d: %.80v: %v", i, v, e)
		}
		for end := range min(len(laid), 300) {
			k.testRead(t, laid[:end], 0)
		}
	}
}

// testPlaces reads at places that are none, and at each place of what was laid.
func (k sort[T]) testPlaces(t *testing.T) {
	for _, v := range k.good()[:3] {
		laid := bytesOf(k.flat(v)...)
		for _, at := range []int{-1, len(laid) + 1, len(laid) + 64, math.MinInt, math.MaxInt} {
			if e := k.testRead(t, laid, at); e != api.ErrRange {
				t.Errorf("%d bytes at %d: %v", len(laid), at, e)
			}
		}
		for at := range len(laid) + 1 {
			k.testRead(t, laid, at)
		}
	}
	if e := k.testRead(t, "", 0); e != api.ErrShort {
		t.Error("nothing:", e)
	}
}

// testTexts reads short texts of all sorts, and others with a few bytes changed.
func (k sort[T]) testTexts(t *testing.T) {
	right := 0
	for _, s := range texts("\x00\x01\x02\x04\x06\x08a\x80", 5) {
		for _, head := range []string{"", "\x02\x02\x02a"} {
			if k.testRead(t, head+s, 0) == api.OK {
				right++
			}
		}
	}
	if right < 100 {
		t.Errorf("only %d could be read", right)
	}
	source := rand.New(rand.NewSource(2))
	var all []string
	for _, v := range append(k.good(), k.bad()...) {
		laid := bytesOf(k.flat(v)...)
		all = append(all, laid[:min(len(laid), 600)])
	}
	for range 30000 {
		laid := []byte(all[source.Intn(len(all))])
		for range 1 + source.Intn(2) {
			place, b := source.Intn(len(laid)), byte(source.Intn(256))
			switch source.Intn(4) {
			case 0:
				laid[place] = b
			case 1:
				laid[place] ^= 1 << source.Intn(8)
			case 2:
				laid = slices.Insert(laid, place, b)
			default:
				laid = append(slices.Delete(laid, place, place+1), b)
			}
		}
		k.testRead(t, string(laid), 0)
	}
}

// texts: all of at most so many bytes of these.
func texts(alphabet string, most int) []string {
	all, longest := []string{""}, []string{""}
	for range most {
		var next []string
		for _, s := range longest {
			for i := range len(alphabet) {
				next = append(next, s+alphabet[i:i+1])
			}
		}
		all, longest = append(all, next...), next
	}
	return all
}

func TestRead(t *testing.T) {
	t.Run("cmd", cmds().testReads)
	t.Run("record", records().testReads)
	t.Run("events", rows().testReads)
	t.Run("items", items().testReads)
	t.Run("verdicts", verdicts().testReads)
	t.Run("filter", filters().testReads)
}

func TestReadPlaces(t *testing.T) {
	t.Run("cmd", cmds().testPlaces)
	t.Run("record", records().testPlaces)
	t.Run("events", rows().testPlaces)
	t.Run("items", items().testPlaces)
	t.Run("verdicts", verdicts().testPlaces)
	t.Run("filter", filters().testPlaces)
}

func TestReadAnyBytes(t *testing.T) {
	t.Run("cmd", cmds().testTexts)
	t.Run("record", records().testTexts)
	t.Run("events", rows().testTexts)
	t.Run("items", items().testTexts)
	t.Run("verdicts", verdicts().testTexts)
	t.Run("filter", filters().testTexts)
}

// TestFirstError: of several errors the first of varint's is told, and a list's number ahead of its items; that something may not be laid comes last.
func TestFirstError(t *testing.T) {
	long, big := strings.Repeat("\x80", 9)+"\x02", "\x82\x40" // no number; the length of a text that is too long
	readers := map[string]func(string) api.Errno{
		"cmd":      func(s string) api.Errno { _, _, e := codec.ReadCmd(s, 0); return e },
		"record":   func(s string) api.Errno { _, _, e := codec.ReadRecord(s, 0); return e },
		"events":   func(s string) api.Errno { _, _, e := codec.ReadEvents(s, 0); return e },
		"items":    func(s string) api.Errno { _, _, e := codec.ReadItems(s, 0); return e },
		"verdicts": func(s string) api.Errno { _, _, e := codec.ReadVerdicts(s, 0); return e },
		"filter":   func(s string) api.Errno { _, _, e := codec.ReadFilter(s, 0); return e },
	}
	for _, c := range []struct {
		sort, s string
		e       api.Errno
	}{
		{"cmd", "\x7e\x04\x02a\x00\x00\x01", api.ErrForm}, {"cmd", "\x7e\x04\x02a\x00\x00", api.ErrShort}, {"cmd", "\x7e", api.ErrShort},
		{"cmd", "\x7e\x04" + big, api.ErrBig}, {"cmd", "\x02\x00\x02A\x7e\x00", api.ErrShort}, {"cmd", "\x02\x04\x01", api.ErrForm},
		{"cmd", "\x80\x00", api.ErrForm}, {"cmd", "\x02" + long, api.ErrForm}, {"cmd", "\x02\x04" + big + long, api.ErrBig},
		{"cmd", "\x02\x04\x02a\x00\x0a", api.ErrForm}, {"cmd", "\x02\x04\x02a\x00\x01", api.ErrForm}, {"cmd", "\x02\x04\x02a\x00\x08", api.ErrShort},
		{"cmd", "\x02\x04\x02a\x00\x80", api.ErrShort}, {"cmd", "\x02\x04\x02a\x00\x02\x80\x00", api.ErrForm}, {"cmd", "\x02\x04\x04a", api.ErrShort},
		{"cmd", "\x02\x04" + bytesOf(strings.Repeat("a", 4096)), api.ErrShort}, {"cmd", "\x02\x04" + bytesOf(strings.Repeat("a", 4096)) + "\x00\x00\x00", api.ErrForm},

		{"record", "\x02\x04\x02a\x7e\x02", api.ErrShort}, {"record", "\x02\x04\x02a\x7e\x08", api.ErrForm}, {"record", "\x02\x04\x02a\x7e\x02\x00\x00", api.ErrForm},
		{"record", "\x02\x04\x02a\x80\x01\x01", api.ErrForm}, {"record", "\x02\x04\x02a\x80\x01", api.ErrShort}, {"record", "\x02\x04\x02a\x00\x02\x00\x0e", api.ErrForm},
		{"record", "\x7e\x00\x02A\x80\x01\x06\x10\x00\x10\x00\x10", api.ErrShort},

		{"events", "\x06", api.ErrShort}, {"events", "\x08", api.ErrForm}, {"events", "\x01", api.ErrForm}, {"events", "\x80", api.ErrShort},
		{"events", "\x82\x04", api.ErrForm}, {"events", bytesOf(math.MaxInt), api.ErrForm}, {"events", bytesOf(math.MinInt), api.ErrForm},
		{"events", "\x04\x10\x00\x00", api.ErrShort}, {"events", "\x04\x10\x0e", api.ErrForm}, {"events", "\x04\x10\x00\x00\x0c", api.ErrShort},
		{"events", "\x02\x00\x02" + bytesOf(top+1), api.ErrForm}, {"events", "\x04\x00\x02" + bytesOf(top+1), api.ErrShort}, {"events", long, api.ErrForm},

		{"items", "\x80\x01", api.ErrShort}, {"items", "\x82\x01", api.ErrForm}, {"items", "\x01", api.ErrForm}, {"items", "\x82\x04", api.ErrForm},
		{"items", "\x02" + big, api.ErrBig}, {"items", "\x02\x01", api.ErrForm}, {"items", "\x02\x02", api.ErrShort},
		{"items", "\x04\x02b\x00\x00\x00\x02a\x00\x00\x00", api.ErrForm}, {"items", "\x04\x02b\x00\x00\x00\x02a\x00\x00", api.ErrShort}, {"items", "\x04\x00\x00\x00\x00" + big, api.ErrBig},
		{"items", "\x04\x02a\x00\x00\x0e" + big, api.ErrForm}, {"items", "\x04\x02a\x00\x01\x00" + big, api.ErrBig},

		{"verdicts", "\x40", api.ErrShort}, {"verdicts", "\x42", api.ErrForm}, {"verdicts", "\x01", api.ErrForm}, {"verdicts", bytesOf(math.MaxInt), api.ErrForm},
		{"verdicts", "\x04\x04\x00\x04\x00", api.ErrForm}, {"verdicts", "\x04\x04\x00\x04", api.ErrShort}, {"verdicts", "\x06\x00\x00\x00\x00\x02", api.ErrShort}, {"verdicts", "\x04\x00\x00\x80\x00", api.ErrForm},

		{"filter", "\x10", api.ErrShort}, {"filter", "\x12", api.ErrForm}, {"filter", "\x01", api.ErrForm}, {"filter", "\x82\x04", api.ErrForm},
		{"filter", "\x02\x02A", api.ErrForm}, {"filter", "\x04\x02A", api.ErrShort}, {"filter", "\x04\x02A" + big, api.ErrBig}, {"filter", "\x04\x02A\x01", api.ErrForm}, {"filter", "\x02\x00", api.ErrForm},
		{"filter", "\x06" + big + "\x01", api.ErrBig}, {"filter", "\x06\x01" + big, api.ErrForm},
	} {
		if e := readers[c.sort](c.s); e != c.e {
			t.Errorf("%s: %.40x: %v, not %v", c.sort, c.s, e, c.e)
		}
	}
}

// ---- P10.3 (there and back)

func (k sort[T]) testThereAndBack(t *testing.T) {
	around := []string{"", "\x00", "\x80", "\xff\xff", "text", strings.Repeat("\xff", 12)}
	for _, v := range k.good() {
		laid, _ := k.put(v)
		for _, ahead := range around {
			for _, behind := range around {
				got, next, e := k.read(ahead+laid+behind, len(ahead))
				if !same(k.flat(got), k.flat(v)) || next != len(ahead)+len(laid) || e != api.OK {
					t.Fatalf("%.80v behind %x, ahead of %x: %.80v, %d, %v", v, ahead, behind, got, next, e)
				}
			}
		}
	}
}

// testBackAndThere: whatever can be read is laid as the very bytes.
func (k sort[T]) testBackAndThere(t *testing.T) {
	read := 0
	check := func(s string, at int) {
		what, next, e := k.read(s, at)
		if e != api.OK {
			return
		}
		read++
		if laid, e := k.put(what); laid != s[at:next] || e != api.OK {
			t.Fatalf("%x at %d up to %d: laid as %x, %v", s, at, next, laid, e)
		}
	}
	for _, s := range texts("\x00\x02\x04\x06a\x80\x01", 5) {
		check(s, 0)
		check("\x02\x04\x02a"+s, 0)
	}
	for _, v := range k.good() {
		s := bytesOf(k.flat(v)...)
		for at := range s {
			check(s, at)
		}
	}
	if read < 100 {
		t.Errorf("only %d could be read", read)
	}
}

func TestThereAndBack(t *testing.T) {
	t.Run("cmd", cmds().testThereAndBack)
	t.Run("record", records().testThereAndBack)
	t.Run("events", rows().testThereAndBack)
	t.Run("items", items().testThereAndBack)
	t.Run("verdicts", verdicts().testThereAndBack)
	t.Run("filter", filters().testThereAndBack)
}

func TestReadIsLaidAsItWas(t *testing.T) {
	t.Run("cmd", cmds().testBackAndThere)
	t.Run("record", records().testBackAndThere)
	t.Run("events", rows().testBackAndThere)
	t.Run("items", items().testBackAndThere)
	t.Run("verdicts", verdicts().testBackAndThere)
	t.Run("filter", filters().testBackAndThere)
}

// chanceValues: numbers of all lengths, so many at most.
func chanceValues(source *rand.Rand, most int) []int {
	l := make([]int, source.Intn(most+1))
	for i := range l {
		l[i] = source.Intn(2<<source.Intn(41)) - 1<<source.Intn(40)
		l[i] = max(-top, min(top, l[i]))
	}
	return l
}

func chanceEvents(source *rand.Rand) []api.Event {
	l := make([]api.Event, source.Intn(4))
	for i := range l {
		l[i] = api.Event{At: source.Intn(8), Vars: chanceValues(source, 6)}
	}
	return l
}

// TestChance: by chance any that may be laid, one behind the other, are read one behind the other.
func TestChance(t *testing.T) {
	source := rand.New(rand.NewSource(3))
	for range 3000 {
		name := goodNames()[source.Intn(len(goodNames()))]
		c := api.Cmd{Client: source.Intn(6), Seq: 1 + source.Intn(1<<source.Intn(41)), Stream: name, Rule: source.Intn(12), Args: chanceValues(source, 4), Expect: source.Intn(1<<source.Intn(41)) - 1}
		r := api.Record{Client: source.Intn(6), Seq: 1 + source.Intn(1<<source.Intn(41)), Stream: name, Events: chanceEvents(source)}
		l := streams(source.Intn(65))
		for i := range l {
			l[i].State.Version, l[i].State.Vars = source.Intn(1<<source.Intn(41)), chanceValues(source, 6)
		}
		v := told(source.Intn(33))
		for i := range v {
			v[i].Code = source.Intn(64)
		}
		cs, ce := codec.PutCmd(c)
		rs, re := codec.PutRecord(r)
		ls, le := codec.PutItems(l)
		vs, ve := codec.PutVerdicts(v)
		if ce != api.OK || re != api.OK || le != api.OK || ve != api.OK {
			t.Fatal(ce, re, le, ve)
		}
		s := cs + rs + ls + vs
		if s != bytesOf(slices.Concat(flatCmd(c), flatRecord(r), flatItems(l), flatVerdicts(v))...) {
			t.Fatalf("%v, %v, %v, %v: %x", c, r, l, v, s)
		}
		c2, at, e1 := codec.ReadCmd(s, 0)
		r2, at, e2 := codec.ReadRecord(s, at)
		l2, at, e3 := codec.ReadItems(s, at)
		v2, at, e4 := codec.ReadVerdicts(s, at)
		if e1 != api.OK || e2 != api.OK || e3 != api.OK || e4 != api.OK || at != len(s) {
			t.Fatal(e1, e2, e3, e4, at, len(s))
		}
		if !same(flatCmd(c), flatCmd(c2)) || !same(flatRecord(r), flatRecord(r2)) || !same(flatItems(l), flatItems(l2)) || !same(flatVerdicts(v), flatVerdicts(v2)) {
			t.Fatalf("%v, %v, %v, %v: %v, %v, %v, %v", c, r, l, v, c2, r2, l2, v2)
		}
	}
}

// ---- R1, R2, R3: nothing panics; what comes in is left as it is, what is told is new.

func TestHugeOnes(t *testing.T) {
	many := make([]int, 1<<20)
	name := strings.Repeat("a", 1<<24)
	for _, e := range []api.Errno{
		putError(codec.PutCmd(api.Cmd{Seq: 1, Stream: name, Args: many})),
		putError(codec.PutRecord(api.Record{Seq: 1, Stream: name, Events: make([]api.Event, 1<<20)})),
		putError(codec.PutEvents([]api.Event{{Vars: many}})),
		putError(codec.PutItems(make([]api.Item, 1<<20))),
		putError(codec.PutVerdicts(make([]api.Verdict, 1<<20))),
		putError(codec.PutFilter([]string{name})),
	} {
		if e != api.ErrArg {
			t.Error(e)
		}
	}
	if _, _, e := codec.ReadFilter("\x02"+bytesOf(name), 0); e != api.ErrBig {
		t.Error(e)
	}
}

func putError(_ string, e api.Errno) api.Errno { return e }

func TestArgumentsStay(t *testing.T) {
	vars := []int{1, 2, 3, 4}
	c := api.Cmd{Seq: 1, Stream: "a", Args: vars[:2]}
	codec.PutCmd(c)
	list := []api.Event{{At: 1, Vars: vars[:1]}, {At: 2}, {At: 3}}
	codec.PutEvents(list[:1])
	codec.PutRecord(api.Record{Seq: 1, Stream: "a", Events: list[:2]})
	l := []api.Item{{Stream: "b", State: api.State{Vars: vars[:3]}}, {Stream: "a"}, {Stream: "c"}}
	codec.PutItems(l[:1])
	codec.PutItems(l[:2])
	v := []api.Verdict{{Seq: 2}, {Seq: 1}, {Seq: 7}}
	codec.PutVerdicts(v[:1])
	codec.PutVerdicts(v[:2])
	f := []string{"b", "a", "a/*"}
	codec.PutFilter(f[:2])
	if !slices.Equal(vars, []int{1, 2, 3, 4}) || list[0].At != 1 || list[1].At != 2 || list[2].At != 3 {
		t.Error(vars, list)
	}
	if l[0].Stream != "b" || l[1].Stream != "a" || l[2].Stream != "c" || v[0].Seq != 2 || v[1].Seq != 1 || v[2].Seq != 7 {
		t.Error(l, v)
	}
	if !slices.Equal(f, []string{"b", "a", "a/*"}) {
		t.Error(f)
	}
}

func TestAnswersAreNew(t *testing.T) {
	within := func(part, s string) bool {
		p, start := uintptr(unsafe.Pointer(unsafe.StringData(part))), uintptr(unsafe.Pointer(unsafe.StringData(s)))
		return p >= start && p < start+uintptr(len(s))
	}
	stream := strings.Repeat("abcd", 8)
	cs, _ := codec.PutCmd(api.Cmd{Seq: 1, Stream: stream, Args: []int{1, 2}})
	rs, _ := codec.PutRecord(api.Record{Seq: 1, Stream: stream, Events: []api.Event{{Vars: []int{1, 2}}, {Vars: []int{3, 4}}, {Vars: []int{5}}}})
	ls, _ := codec.PutItems([]api.Item{{Stream: stream, State: api.State{Vars: []int{1, 2}}}, {Stream: "b", State: api.State{Vars: []int{3}}}})
	fs, _ := codec.PutFilter([]string{stream})
	c, _, _ := codec.ReadCmd(cs, 0)
	r, _, _ := codec.ReadRecord(rs, 0)
	l, _, _ := codec.ReadItems(ls, 0)
	f, _, _ := codec.ReadFilter(fs, 0)
	if within(c.Stream, cs) || within(r.Stream, rs) || within(l[0].Stream, ls) || within(f[0], fs) {
		t.Error("a name is a piece of what came in")
	}
	// No two lists of one answer, or of two, share their numbers, nor the room behind them.
	_ = append(r.Events[0].Vars, 9, 9, 9)
	_ = append(r.Events[1].Vars, 9, 9, 9)
	_ = append(l[0].State.Vars, 9, 9, 9)
	if !slices.Equal(r.Events[1].Vars, []int{3, 4}) || !slices.Equal(r.Events[2].Vars, []int{5}) || !slices.Equal(l[1].State.Vars, []int{3}) {
		t.Error("two lists share their numbers")
	}
	c.Args[0], r.Events[0].Vars[0], l[0].State.Vars[0], f[0] = 9, 9, 9, "z"
	c2, _, _ := codec.ReadCmd(cs, 0)
	r2, _, _ := codec.ReadRecord(rs, 0)
	l2, _, _ := codec.ReadItems(ls, 0)
	f2, _, _ := codec.ReadFilter(fs, 0)
	if c2.Args[0] != 1 || r2.Events[0].Vars[0] != 1 || r2.Events[1].Vars[0] != 3 || l2[0].State.Vars[0] != 1 || f2[0] != stream {
		t.Error("two answers share their lists")
	}
}
