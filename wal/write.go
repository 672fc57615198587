package wal

import (
	"slices"
	"strings"

	"surmise/api"
)

// Append puts a record behind the others.
func (l *Log) Append(s string) (int, api.Errno) {
	if l == nil {
		return 0, api.ErrNil
	}
	if len(s) > api.MaxRecord {
		return 0, api.ErrBig
	}
	n := l.Next()
	into, e := l.segmentFor(n)
	if e != api.OK {
		return 0, e
	}
	laid, e := layRecord(n, s)
	if e != api.OK {
		return 0, e
	}
	if e := l.disk.Append(l.file(into), laid); e != api.OK {
		return 0, e
	}
	if len(l.segments) == 0 || l.last().first != into {
		l.segments = append(l.segments, segment{first: into})
	}
	l.last().size += len(laid)
	l.records.take(strings.Clone(s))
	return n, api.OK
}

// segmentFor is the first number of the segment in which the next record will stand: of a new one, if the last one has bytes enough, and then all ahead of it is made safe.
func (l *Log) segmentFor(n int) (int, api.Errno) {
	if len(l.segments) == 0 {
		return n, api.OK
	}
	if l.last().size < l.most {
		return l.last().first, api.OK
	}
	if n > api.MaxSeq {
		return 0, api.ErrFull // a file of that number would be no segment, and its records lost
	}
	return n, l.Sync()
}

// Sync makes all records safe.
func (l *Log) Sync() api.Errno {
	if l == nil {
		return api.ErrNil
	}
	if len(l.segments) == 0 {
		return api.OK
	}
	if e := l.disk.Sync(l.file(l.last().first)); e != api.OK {
		return e
	}
	l.safe = l.Next()
	return api.OK
}

// Trim takes the first segments away.
func (l *Log) Trim(i int) api.Errno {
	if l == nil {
		return api.ErrNil
	}
	for len(l.segments) > 1 && l.segments[1].first <= i {
		first := l.First()
		if e := l.disk.Remove(l.file(first)); e != api.OK {
			return e
		}
		l.segments = slices.Delete(l.segments, 0, 1)
		l.records = slices.Delete(l.records, 0, l.First()-first)
	}
	return api.OK
}

// last is the segment behind all others.
func (l *Log) last() *segment {
	return &l.segments[len(l.segments)-1]
}
