package wal

import (
	"math"
	"slices"
	"strconv"
	"strings"

	"surmise/api"
	"surmise/check"
	"surmise/disk"
	"surmise/varint"
)

// mostName is the most letters that a log's name may have.
const mostName = 8

// Parse tells the records that bytes hold.
func Parse(s string, first int) ([]string, int) {
	if first < 0 {
		return nil, 0
	}
	var held records
	behind := through(s, first)(held.take)
	return held, behind
}

// through makes a function that hands each record of a segment to do, and tells the place behind them.
func through(s string, first int) func(do func(record string)) int {
	return func(do func(record string)) int {
		at := 0
	reading:
		for number := first; ; number++ {
			n, record, behind, e := readRecord(s, at)
			switch {
			case e != api.OK:
				break reading // there are no more bytes, or they are spoilt
			case n != number, len(record) > api.MaxRecord:
				break reading // nobody lays it there
			}
			do(record)
			at = behind
			if number == math.MaxInt {
				break reading // no number is next
			}
		}
		return at
	}
}

// readRecord reads a record's number and the record, and tells the place behind.
func readRecord(s string, at int) (int, string, int, api.Errno) {
	sealed, behind, e := varint.ReadText(s, at)
	if e != api.OK {
		return 0, "", 0, e
	}
	opened, e := check.Open(sealed)
	if e != api.OK {
		return 0, "", 0, e
	}
	n, from, e := varint.ReadNumber(opened, 0)
	if e != api.OK {
		return 0, "", 0, e
	}
	return n, opened[from:], behind, api.OK
}

// layRecord is a record's bytes in its segment.
func layRecord(n int, record string) (string, api.Errno) {
	return varint.Text(check.Seal(varint.Number(n) + record))
}

// isName tells whether a text can be a log's name.
func isName(s string) bool {
	return 1 <= len(s) && len(s) <= mostName && !strings.ContainsFunc(s, isNoLetter)
}

// isNoLetter tells of what stands in no log's name.
func isNoLetter(r rune) bool {
	return r < 'a' || r > 'z'
}

// file is the name of the segment that begins with a number.
func (l *Log) file(first int) string {
	return l.name + "." + strconv.Itoa(first)
}

// segmentsOn is the numbers of the segments of a name that are on a disk, rising.
func segmentsOn(d *disk.Disk, name string) []int {
	var numbers []int
	for _, file := range d.List() {
		digits, found := strings.CutPrefix(file, name+".")
		if first, ok := segmentNumber(digits); found && ok {
			numbers = append(numbers, first)
		}
	}
	slices.Sort(numbers) // by names 10 is ahead of 9
	return numbers
}

// segmentNumber reads a segment's number, and tells whether it is one that is written without a needless 0 or sign.
func segmentNumber(digits string) (int, bool) {
	n, e := strconv.Atoi(digits)
	if e != nil || n < 0 || n > api.MaxSeq || strconv.Itoa(n) != digits {
		return 0, false
	}
	return n, true
}
