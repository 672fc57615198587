package codec

import (
	"strings"

	"surmise/api"
	"surmise/varint"
)

// layCmd is the bytes of a command.
func layCmd(c api.Cmd) string {
	return layHead(c.Client, c.Seq, c.Stream) + varint.Number(c.Rule) + layValues(c.Args) + varint.Number(c.Expect)
}

// layRecord is the bytes of a record.
func layRecord(r api.Record) string {
	return layHead(r.Client, r.Seq, r.Stream) + varint.Number(r.Code) + layEvents(r.Events)
}

// layEvents is the bytes of events.
func layEvents(l []api.Event) string {
	return layList(l, func(e api.Event) string { return varint.Number(e.At) + layValues(e.Vars) })
}

// layItems is the bytes of streams and of where they stand.
func layItems(l []api.Item) string {
	return layList(l, func(i api.Item) string { return layText(i.Stream) + layState(i.State) })
}

// layState is the bytes of where a stream stands.
func layState(s api.State) string {
	return varint.Number(s.At) + varint.Number(s.Version) + layValues(s.Vars)
}

// layVerdicts is the bytes of verdicts.
func layVerdicts(l []api.Verdict) string {
	return layList(l, func(v api.Verdict) string { return varint.Number(v.Seq) + varint.Number(v.Code) })
}

// layFilter is the bytes of a filter.
func layFilter(l []string) string {
	return layList(l, layText)
}

// layHead is the bytes with which commands and records begin.
func layHead(client, seq int, stream string) string {
	return varint.Number(client) + varint.Number(seq) + layText(stream)
}

// layValues is the bytes of values.
func layValues(l []int) string {
	return layList(l, varint.Number)
}

// layText is the bytes of a text. What may be laid has short ones alone, so that varint finds nothing wrong.
func layText(s string) string {
	laid, _ := varint.Text(s)
	return laid
}

// layList is the bytes of a list: the number of its items, and of each what lay tells.
func layList[T any](l []T, lay func(T) string) string {
	var laid strings.Builder
	laid.WriteString(varint.Number(len(l)))
	for _, item := range l {
		laid.WriteString(lay(item))
	}
	return laid.String()
}
