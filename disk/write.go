package disk

import (
	"slices"
	"strings"

	"surmise/api"
)

// Append puts bytes behind a file's.
func (d *Disk) Append(name, s string) api.Errno {
	if e := d.up(); e != api.OK {
		return e
	}
	if !isName(name) {
		return api.ErrArg
	}
	if !d.hasRoom(name, len(s)) {
		return api.ErrFull
	}
	put := func() {
		f := d.files[name]
		if f == nil {
			f = &file{}
			d.files[strings.Clone(name)] = f
		}
		f.bytes = append(f.bytes, s...)
	}
	return d.write(put, put)
}

// Sync makes a file's bytes safe.
func (d *Disk) Sync(name string) api.Errno {
	f, e := d.find(name)
	if e != api.OK {
		return e
	}
	return d.write(func() { f.safe = len(f.bytes) }, nothing)
}

// Truncate cuts a file.
func (d *Disk) Truncate(name string, n int) api.Errno {
	f, e := d.find(name)
	if e != api.OK {
		return e
	}
	if n < 0 || n > len(f.bytes) {
		return api.ErrRange
	}
	return d.write(func() { f.cut(n) }, nothing)
}

// Rename gives a file another name.
func (d *Disk) Rename(from, to string) api.Errno {
	if e := d.up(); e != api.OK {
		return e
	}
	if !isName(from) || !isName(to) {
		return api.ErrArg
	}
	f, e := d.find(from)
	if e != api.OK {
		return e
	}
	if f.safe < len(f.bytes) {
		return api.ErrBusy
	}
	move := func() {
		delete(d.files, from) // ahead of the other name, which may be the same
		d.files[strings.Clone(to)] = f
	}
	return d.write(move, nothing)
}

// Remove takes a file away.
func (d *Disk) Remove(name string) api.Errno {
	if _, e := d.find(name); e != api.OK {
		return e
	}
	return d.write(func() { delete(d.files, name) }, nothing)
}

// write does what a write does, or, if the disk goes down at it, what is done of it all the same.
func (d *Disk) write(do, doAtDown func()) api.Errno {
	if d.goesDown() {
		doAtDown()
		return api.ErrDown
	}
	do()
	return api.OK
}

// nothing is what is done of most writes at which the disk goes down.
func nothing() {}

// goesDown counts a write, and tells whether the disk goes down at it.
func (d *Disk) goesDown() bool {
	if d.left > 0 {
		d.left--
		d.down = d.left == 0
	}
	return d.down
}

// cut leaves a file its first n bytes.
func (f *file) cut(n int) {
	f.bytes = slices.Clone(f.bytes[:n])
	f.safe = min(f.safe, n)
}

// hasRoom tells whether so many bytes more may stand in the file of a name.
func (d *Disk) hasRoom(name string, more int) bool {
	f := d.files[name]
	if f == nil {
		return len(d.files) < api.MaxFiles && more <= min(api.MaxFile, d.room-d.Used())
	}
	return more <= min(api.MaxFile-len(f.bytes), d.room-d.Used())
}

// isName tells whether a text can be a file's name.
func isName(s string) bool {
	return 1 <= len(s) && len(s) <= api.MaxName && !strings.ContainsFunc(s, isForeign)
}

// isForeign tells of what stands in no name.
func isForeign(r rune) bool {
	return (r < 'a' || r > 'z') && (r < '0' || r > '9') && r != '.' && r != '-' && r != '_'
}
