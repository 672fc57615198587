package disk_test

import (
	"math"
	"math/rand"
	"slices"
	"strconv"
	"strings"
	"testing"
	"unsafe"

	"surmise/api"
	"surmise/disk"
)

// made is a new disk.
func made(t *testing.T, room int) *disk.Disk {
	t.Helper()
	d, e := disk.New(room)
	if e != api.OK || d == nil {
		t.Fatalf("New(%d): %v, %d", room, d, e)
	}
	return d
}

// want holds an error against the one that is asked for.
func want(t *testing.T, what string, got, asked api.Errno) {
	t.Helper()
	if got != asked {
		t.Errorf("%s: error %d, not %d", what, got, asked)
	}
}

// shown is each file of a disk that is up, as NAME=safe|others.
func shown(t *testing.T, d *disk.Disk) string {
	t.Helper()
	var all []string
	for _, name := range d.List() {
		s, e := d.Read(name)
		want(t, "Read "+name, e, api.OK)
		all = append(all, name+"="+s[:d.Safe(name)]+"|"+s[d.Safe(name):])
	}
	return strings.Join(all, " ")
}

// holds holds a disk against what is asked for, as shown tells it.
func holds(t *testing.T, what string, d *disk.Disk, asked string) {
	t.Helper()
	if got := shown(t, d); got != asked {
		t.Errorf("%s: %q, not %q", what, got, asked)
	}
}

// full is a disk with a file of each sort: s is safe, p partly, u not at all, z is empty.
func full(t *testing.T) *disk.Disk {
	t.Helper()
	d := made(t, 1000)
	want(t, "s", d.Append("s", "safe"), api.OK)
	want(t, "s", d.Sync("s"), api.OK)
	want(t, "p", d.Append("p", "part"), api.OK)
	want(t, "p", d.Sync("p"), api.OK)
	want(t, "p", d.Append("p", "ly"), api.OK)
	want(t, "u", d.Append("u", "un"), api.OK)
	want(t, "z", d.Append("z", ""), api.OK)
	holds(t, "full", d, asFull)
	return d
}

const asFull = "p=part|ly s=safe| u=|un z=|"

// armed is full, to go down at the next write.
func armed(t *testing.T) *disk.Disk {
	t.Helper()
	d := full(t)
	want(t, "Arm", d.Arm(1), api.OK)
	return d
}

// down is full, and down.
func down(t *testing.T) *disk.Disk {
	t.Helper()
	d := armed(t)
	want(t, "the write", d.Sync("s"), api.ErrDown)
	if !d.Down() {
		t.Fatal("it is not down")
	}
	return d
}

// writes are a write of each sort that may be done on full.
func writes() map[string]func(d *disk.Disk) api.Errno {
	return map[string]func(d *disk.Disk) api.Errno{
		"Append":   func(d *disk.Disk) api.Errno { return d.Append("u", "!") },
		"Sync":     func(d *disk.Disk) api.Errno { return d.Sync("p") },
		"Truncate": func(d *disk.Disk) api.Errno { return d.Truncate("p", 1) },
		"Rename":   func(d *disk.Disk) api.Errno { return d.Rename("s", "t") },
		"Remove":   func(d *disk.Disk) api.Errno { return d.Remove("p") },
	}
}

// ---- P12.1 (New)

func TestNewMakesADiskOfARoomThatMayBe(t *testing.T) {
	for _, room := range []int{0, 1, 1000, 1<<20 - 1, 1 << 20} {
		d := made(t, room)
		if len(d.List()) != 0 || d.Used() != 0 || d.Down() {
			t.Errorf("New(%d): %q, %d, %t", room, d.List(), d.Used(), d.Down())
		}
	}
	for _, room := range []int{-1, math.MinInt, 1<<20 + 1, math.MaxInt} {
		d, e := disk.New(room)
		if d != nil {
			t.Errorf("New(%d) makes a disk", room)
		}
		want(t, "New", e, api.ErrArg)
	}
}

func TestARoomIsThatOfTheDisk(t *testing.T) {
	for _, room := range []int{0, 1, 5, 1000} {
		d := made(t, room)
		want(t, "one byte more", d.Append("a", strings.Repeat("x", room+1)), api.ErrFull)
		want(t, "just so many", d.Append("a", strings.Repeat("x", room)), api.OK)
		want(t, "none", d.Append("b", ""), api.OK)
		want(t, "another one", d.Append("b", "x"), api.ErrFull)
		if d.Used() != room {
			t.Errorf("%d bytes of %d", d.Used(), room)
		}
	}
}

// ---- P12.2 (the writes)

func TestAppendPutsBytesBehindAFile(t *testing.T) {
	d := made(t, 100)
	want(t, "Append", d.Append("a", "abc"), api.OK)
	holds(t, "a new file", d, "a=|abc")
	want(t, "Append", d.Append("a", "d"), api.OK)
	holds(t, "more bytes", d, "a=|abcd")
	want(t, "Sync", d.Sync("a"), api.OK)
	want(t, "Append", d.Append("a", "\x00\xff"), api.OK)
	holds(t, "behind safe ones", d, "a=abcd|\x00\xff")
	want(t, "Append", d.Append("a", ""), api.OK)
	holds(t, "no bytes", d, "a=abcd|\x00\xff")
	want(t, "Append", d.Append("b", ""), api.OK)
	holds(t, "a new file without bytes", d, "a=abcd|\x00\xff b=|")
}

func TestSyncMakesAllBytesOfOneFileSafe(t *testing.T) {
	d := full(t)
	for _, name := range []string{"p", "s", "z"} {
		want(t, "Sync", d.Sync(name), api.OK)
	}
	holds(t, "all but u", d, "p=partly| s=safe| u=|un z=|")
}

func TestTruncateCuts(t *testing.T) {
	for _, c := range []struct {
		n     int
		asked string
	}{{6, "part|ly"}, {5, "part|l"}, {4, "part|"}, {3, "par|"}, {0, "|"}} {
		d := full(t)
		want(t, "Truncate", d.Truncate("p", c.n), api.OK)
		holds(t, "Truncate", d, "p="+c.asked+" s=safe| u=|un z=|")
		want(t, "Append", d.Append("p", "X"), api.OK)
		holds(t, "Append behind it", d, "p="+c.asked+"X s=safe| u=|un z=|")
	}
	d := full(t)
	want(t, "Truncate", d.Truncate("z", 0), api.OK)
	want(t, "Truncate", d.Truncate("u", 1), api.OK)
	holds(t, "none is safe", d, "p=part|ly s=safe| u=|u z=|")
	for _, n := range []int{-1, math.MinInt, 7, math.MaxInt} {
		want(t, "Truncate", d.Truncate("p", n), api.ErrRange)
	}
	want(t, "Truncate", d.Truncate("z", 1), api.ErrRange)
	holds(t, "out of range", d, "p=part|ly s=safe| u=|u z=|")
}

func TestTruncateFreesRoom(t *testing.T) {
	d := made(t, 5)
	want(t, "Append", d.Append("a", "abcde"), api.OK)
	want(t, "Truncate", d.Truncate("a", 3), api.OK)
	want(t, "too many", d.Append("b", "fgh"), api.ErrFull)
	want(t, "Append", d.Append("b", "fg"), api.OK)
	want(t, "Remove", d.Remove("a"), api.OK)
	want(t, "Append", d.Append("b", "hij"), api.OK)
	holds(t, "b alone", d, "b=|fghij")
}

func TestRenameGivesAnotherName(t *testing.T) {
	for _, c := range []struct{ from, to, asked string }{
		{"s", "t", "p=part|ly t=safe| u=|un z=|"},
		{"s", "a", "a=safe| p=part|ly u=|un z=|"},
		{"s", "p", "p=safe| u=|un z=|"},
		{"s", "u", "p=part|ly u=safe| z=|"},
		{"s", "z", "p=part|ly u=|un z=safe|"},
		{"z", "s", "p=part|ly s=| u=|un"},
		{"z", "p", "p=| s=safe| u=|un"},
		{"s", "s", asFull},
		{"z", "z", asFull},
	} {
		d := full(t)
		want(t, "Rename "+c.from+" "+c.to, d.Rename(c.from, c.to), api.OK)
		holds(t, "Rename "+c.from+" "+c.to, d, c.asked)
	}
	d := full(t)
	for _, c := range [][2]string{{"p", "t"}, {"u", "t"}, {"u", "s"}, {"p", "p"}, {"u", "u"}} {
		want(t, "Rename "+c[0]+" "+c[1], d.Rename(c[0], c[1]), api.ErrBusy)
	}
	holds(t, "not all is safe", d, asFull)
}

func TestRemoveTakesAFileAway(t *testing.T) {
	d := full(t)
	want(t, "Remove", d.Remove("p"), api.OK)
	holds(t, "without p", d, "s=safe| u=|un z=|")
	want(t, "Remove", d.Remove("z"), api.OK)
	want(t, "Remove", d.Remove("s"), api.OK)
	want(t, "Remove", d.Remove("u"), api.OK)
	holds(t, "nothing", d, "")
	want(t, "Remove", d.Remove("u"), api.ErrNone)
	want(t, "Append", d.Append("s", "x"), api.OK)
	holds(t, "anew", d, "s=|x")
}

func names() (good, bad []string) {
	good = []string{"a", "z", "0", "9", ".", "..", "-", "_", "abc.17", "snap-1_x.new", strings.Repeat("a", 24)}
	bad = []string{"", "A", "Z", "a/b", "a b", " ", "a\n", "\x00", "a\x00", "é", "aé", "\xff", "a:", "a`", "{", "a,", "^", "1a!", "\u212a", strings.Repeat("a", 25), strings.Repeat("b", 1<<16)}
	for c := range 256 {
		if name := "n" + string([]byte{byte(c)}); strings.IndexByte("abcdefghijklmnopqrstuvwxyz0123456789.-_", byte(c)) < 0 {
			bad = append(bad, name)
		} else {
			good = append(good, name)
		}
	}
	return good, bad
}

func TestNamesAreShortAndPlain(t *testing.T) {
	good, bad := names()
	for _, name := range good {
		d := made(t, 10)
		want(t, "Append "+strconv.Quote(name), d.Append(name, "x"), api.OK)
		want(t, "Sync "+strconv.Quote(name), d.Sync(name), api.OK)
		want(t, "Rename "+strconv.Quote(name), d.Rename(name, "other"), api.OK)
		want(t, "Rename to "+strconv.Quote(name), d.Rename("other", name), api.OK)
		holds(t, "named", d, name+"=x|")
	}
	for _, name := range bad {
		d := full(t)
		want(t, "Append "+strconv.Quote(name), d.Append(name, "x"), api.ErrArg)
		want(t, "Rename "+strconv.Quote(name), d.Rename(name, "other"), api.ErrArg)
		want(t, "Rename to "+strconv.Quote(name), d.Rename("s", name), api.ErrArg)
		want(t, "Sync "+strconv.Quote(name), d.Sync(name), api.ErrNone)
		want(t, "Truncate "+strconv.Quote(name), d.Truncate(name, 0), api.ErrNone)
		want(t, "Remove "+strconv.Quote(name), d.Remove(name), api.ErrNone)
		holds(t, "no name", d, asFull)
	}
}

func TestNoFileIsMadeButByAppend(t *testing.T) {
	d := full(t)
	want(t, "Sync", d.Sync("a"), api.ErrNone)
	want(t, "Truncate", d.Truncate("a", 0), api.ErrNone)
	want(t, "Rename", d.Rename("a", "b"), api.ErrNone)
	want(t, "Rename", d.Rename("a", "a"), api.ErrNone)
	want(t, "Rename", d.Rename("a", "s"), api.ErrNone)
	want(t, "Remove", d.Remove("a"), api.ErrNone)
	holds(t, "as it was", d, asFull)
}

func TestAFileHasItsMost(t *testing.T) {
	d := made(t, 1<<20)
	want(t, "one too many at once", d.Append("a", strings.Repeat("x", 65537)), api.ErrFull)
	holds(t, "nothing", d, "")
	want(t, "just so many", d.Append("a", strings.Repeat("x", 65536)), api.OK)
	want(t, "one more", d.Append("a", "x"), api.ErrFull)
	want(t, "none more", d.Append("a", ""), api.OK)
	want(t, "another file", d.Append("b", strings.Repeat("y", 65535)), api.OK)
	want(t, "two more", d.Append("b", "yy"), api.ErrFull)
	want(t, "one more", d.Append("b", "y"), api.OK)
	if d.Used() != 2*65536 {
		t.Errorf("%d bytes", d.Used())
	}
}

func TestADiskHasItsMost(t *testing.T) {
	d := made(t, 1<<20)
	for i := range 16 {
		want(t, "a file", d.Append("f"+strconv.Itoa(i), strings.Repeat("x", 65536)), api.OK)
	}
	want(t, "one byte more", d.Append("more", "x"), api.ErrFull)
	want(t, "no byte more", d.Append("more", ""), api.OK)
	want(t, "very much more", d.Append("more", strings.Repeat("x", 1<<24)), api.ErrFull)
	if d.Used() != 1<<20 {
		t.Errorf("%d bytes", d.Used())
	}
}

func TestADiskHasSoManyFiles(t *testing.T) {
	d := made(t, 200)
	for i := range 128 {
		want(t, "a file", d.Append("f"+strconv.Itoa(i), ""), api.OK)
	}
	want(t, "a file more", d.Append("g", ""), api.ErrFull)
	want(t, "a file more, with bytes", d.Append("g", "x"), api.ErrFull)
	want(t, "one that is there", d.Append("f7", "x"), api.OK)
	if len(d.List()) != 128 || d.Used() != 1 {
		t.Errorf("%d files, %d bytes", len(d.List()), d.Used())
	}
	want(t, "Rename", d.Rename("f8", "g"), api.OK)
	want(t, "a file more", d.Append("f8", "x"), api.ErrFull)
	want(t, "Remove", d.Remove("g"), api.OK)
	want(t, "a file again", d.Append("f8", "x"), api.OK)
	want(t, "Rename onto another", d.Rename("f9", "f10"), api.OK)
	want(t, "a file again", d.Append("f9", ""), api.OK)
	want(t, "a file more", d.Append("g", ""), api.ErrFull)
}

func TestWritesAtWhichTheDiskGoesDown(t *testing.T) {
	for what, write := range writes() {
		d := armed(t)
		want(t, what, write(d), api.ErrDown)
		if !d.Down() {
			t.Errorf("%s: it is not down", what)
		}
		used, keep, asked := 12, []int{2, 2}, "p=partly| s=safe| u=un| z=|"
		if what == "Append" {
			used, keep, asked = 13, []int{2, 3}, "p=partly| s=safe| u=un!| z=|"
		}
		if d.Used() != used || d.Safe("u") != 0 || d.Safe("p") != 4 {
			t.Errorf("%s: %d bytes, of u %d safe, of p %d", what, d.Used(), d.Safe("u"), d.Safe("p"))
		}
		want(t, "Crash", d.Crash(keep), api.OK)
		holds(t, what, d, asked)
	}
	d := armed(t)
	want(t, "Append", d.Append("new", "xyz"), api.ErrDown)
	if !slices.Equal(d.List(), []string{"new", "p", "s", "u", "z"}) || d.Used() != 15 || d.Safe("new") != 0 {
		t.Errorf("a new file: %q, %d bytes, %d safe", d.List(), d.Used(), d.Safe("new"))
	}
	want(t, "Crash", d.Crash([]int{2}), api.OK)
	holds(t, "a new file", d, "new=xy| p=part| s=safe| u=| z=|")
}

func TestARenameAtWhichTheDiskGoesDownReplacesNothing(t *testing.T) {
	for _, to := range []string{"u", "s", "p"} {
		d := armed(t)
		want(t, "Rename", d.Rename("s", to), api.ErrDown)
		want(t, "Crash", d.Crash([]int{2, 2}), api.OK)
		holds(t, "Rename", d, "p=partly| s=safe| u=un| z=|")
	}
}

func TestADiskThatIsDownWritesNothing(t *testing.T) {
	d := down(t)
	for what, write := range writes() {
		want(t, what, write(d), api.ErrDown)
	}
	want(t, "Append: no name", d.Append("", "x"), api.ErrDown)
	want(t, "Append: too much", d.Append("a", strings.Repeat("x", 2000)), api.ErrDown)
	want(t, "Sync: no file", d.Sync("a"), api.ErrDown)
	want(t, "Truncate: no file", d.Truncate("a", 0), api.ErrDown)
	want(t, "Truncate: out of range", d.Truncate("p", 7), api.ErrDown)
	want(t, "Rename: no name", d.Rename("", "A"), api.ErrDown)
	want(t, "Rename: no file", d.Rename("a", "b"), api.ErrDown)
	want(t, "Rename: busy", d.Rename("u", "b"), api.ErrDown)
	want(t, "Remove: no file", d.Remove("a"), api.ErrDown)
	want(t, "Crash", d.Crash([]int{2, 2}), api.OK)
	holds(t, "as it was", d, "p=partly| s=safe| u=un| z=|")
}

func TestTheFirstErrorIsTold(t *testing.T) {
	d := full(t)
	want(t, "Append: no name, too much", d.Append("", strings.Repeat("x", 2000)), api.ErrArg)
	want(t, "Rename: no name, no file", d.Rename("a", ""), api.ErrArg)
	want(t, "Rename: no name, busy", d.Rename("u", "U"), api.ErrArg)
	want(t, "Rename: no name, a file", d.Rename("U", "u"), api.ErrArg)
	want(t, "Truncate: no file, out of range", d.Truncate("a", -1), api.ErrNone)
	want(t, "Append: too much in all", d.Append("u", strings.Repeat("x", 989)), api.ErrFull)
	want(t, "Append: just so much", d.Append("u", strings.Repeat("x", 988)), api.OK)
}

func TestANilDiskAnswersErrNil(t *testing.T) {
	var d *disk.Disk
	for what, write := range writes() {
		want(t, what, write(d), api.ErrNil)
	}
	want(t, "Append", d.Append("", strings.Repeat("x", 70000)), api.ErrNil)
	want(t, "Rename", d.Rename("", ""), api.ErrNil)
	want(t, "Truncate", d.Truncate("", -1), api.ErrNil)
	want(t, "Arm", d.Arm(0), api.ErrNil)
	want(t, "Arm", d.Arm(1), api.ErrNil)
	want(t, "Crash", d.Crash(nil), api.ErrNil)
	want(t, "Crash", d.Crash([]int{1}), api.ErrNil)
	s, e := d.Read("a")
	want(t, "Read", e, api.ErrNil)
	if s != "" || d.Safe("a") != 0 || len(d.List()) != 0 || d.Used() != 0 || d.Down() {
		t.Errorf("nil: %q, %d, %q, %d, %t", s, d.Safe("a"), d.List(), d.Used(), d.Down())
	}
}

// ---- P12.3 (looks)

func TestLooks(t *testing.T) {
	d := full(t)
	for name, asked := range map[string]string{"s": "safe", "p": "partly", "u": "un", "z": ""} {
		s, e := d.Read(name)
		want(t, "Read "+name, e, api.OK)
		if s != asked {
			t.Errorf("Read %s: %q", name, s)
		}
	}
	for _, name := range []string{"", "a", "S", "ss", "p ", strings.Repeat("s", 100)} {
		s, e := d.Read(name)
		want(t, "Read "+name, e, api.ErrNone)
		if s != "" || d.Safe(name) != 0 {
			t.Errorf("Read %s: %q, %d", name, s, d.Safe(name))
		}
	}
	for name, asked := range map[string]int{"s": 4, "p": 4, "u": 0, "z": 0} {
		if d.Safe(name) != asked {
			t.Errorf("Safe %s: %d", name, d.Safe(name))
		}
	}
	if !slices.Equal(d.List(), []string{"p", "s", "u", "z"}) || d.Used() != 12 || d.Down() {
		t.Errorf("%q, %d, %t", d.List(), d.Used(), d.Down())
	}
}

func TestLooksWhileItIsDown(t *testing.T) {
	d := down(t)
	for _, name := range []string{"s", "z", "a", ""} {
		s, e := d.Read(name)
		want(t, "Read "+name, e, api.ErrDown)
		if s != "" {
			t.Errorf("Read %s: %q", name, s)
		}
	}
	if d.Safe("s") != 4 || d.Safe("p") != 4 || d.Safe("u") != 0 || d.Safe("a") != 0 {
		t.Errorf("Safe: %d, %d, %d, %d", d.Safe("s"), d.Safe("p"), d.Safe("u"), d.Safe("a"))
	}
	if !slices.Equal(d.List(), []string{"p", "s", "u", "z"}) || d.Used() != 12 || !d.Down() {
		t.Errorf("%q, %d, %t", d.List(), d.Used(), d.Down())
	}
}

func TestListRisesByteByByte(t *testing.T) {
	d := made(t, 100)
	asked := []string{"-", ".", "0", "10", "9", "_", "a", "a-", "a.1", "a.10", "a.9", "a0", "a_", "aa", "ab", "b"}
	for _, i := range rand.New(rand.NewSource(1)).Perm(len(asked)) {
		want(t, "Append", d.Append(asked[i], "x"), api.OK)
	}
	for range 20 {
		if got := d.List(); !slices.Equal(got, asked) {
			t.Fatalf("%q", got)
		}
	}
}

// ---- P12.4 (Arm, Crash)

func TestArmCountsWrites(t *testing.T) {
	for n := 1; n <= 10; n++ {
		d := made(t, 100)
		want(t, "Arm", d.Arm(n), api.OK)
		for i := 1; i < n; i++ {
			want(t, "ahead of it", d.Append("a", "x"), api.OK)
			if d.Down() {
				t.Fatalf("down at %d of %d", i, n)
			}
		}
		want(t, "the last one", d.Append("a", "x"), api.ErrDown)
		if !d.Down() || d.Used() != n {
			t.Errorf("%d: %t, %d bytes", n, d.Down(), d.Used())
		}
		want(t, "behind it", d.Append("a", "x"), api.ErrDown)
		if d.Used() != n {
			t.Errorf("%d: %d bytes", n, d.Used())
		}
	}
}

func TestArmCountsWritesOfEverySort(t *testing.T) {
	for what, write := range writes() {
		d := full(t)
		want(t, "Arm", d.Arm(2), api.OK)
		want(t, what, write(d), api.OK)
		if d.Down() {
			t.Errorf("%s: down too soon", what)
		}
		want(t, "Sync", d.Sync("z"), api.ErrDown)
		if !d.Down() {
			t.Errorf("%s: not counted", what)
		}
	}
	d := full(t)
	want(t, "Arm", d.Arm(5), api.OK)
	want(t, "no bytes", d.Append("z", ""), api.OK)
	want(t, "safe already", d.Sync("s"), api.OK)
	want(t, "to its length", d.Truncate("s", 4), api.OK)
	want(t, "to its own name", d.Rename("s", "s"), api.OK)
	want(t, "the fifth one", d.Remove("s"), api.ErrDown)
}

func TestArmCountsNoCallThatIsRefused(t *testing.T) {
	d := armed(t)
	want(t, "Append: no name", d.Append("", "x"), api.ErrArg)
	want(t, "Append: full", d.Append("a", strings.Repeat("x", 989)), api.ErrFull)
	want(t, "Sync: no file", d.Sync("a"), api.ErrNone)
	want(t, "Truncate: no file", d.Truncate("a", 0), api.ErrNone)
	want(t, "Truncate: out of range", d.Truncate("s", 5), api.ErrRange)
	want(t, "Rename: no name", d.Rename("s", ""), api.ErrArg)
	want(t, "Rename: no file", d.Rename("a", "b"), api.ErrNone)
	want(t, "Rename: busy", d.Rename("u", "b"), api.ErrBusy)
	want(t, "Remove: no file", d.Remove("a"), api.ErrNone)
	_, e := d.Read("a")
	want(t, "Read", e, api.ErrNone)
	d.Safe("s")
	d.List()
	d.Used()
	want(t, "Arm", d.Arm(0), api.ErrArg)
	holds(t, "as it was", d, asFull)
	want(t, "Sync", d.Sync("s"), api.ErrDown)
}

func TestArmRefuses(t *testing.T) {
	d := full(t)
	for _, n := range []int{0, -1, math.MinInt} {
		want(t, "Arm", d.Arm(n), api.ErrArg)
	}
	want(t, "not armed", d.Sync("s"), api.OK)
	want(t, "Arm", d.Arm(2), api.OK)
	want(t, "Arm", d.Arm(0), api.ErrArg)
	want(t, "armed still", d.Sync("s"), api.OK)
	want(t, "armed still", d.Sync("s"), api.ErrDown)
	for _, n := range []int{1, 5, 0, -1} {
		want(t, "Arm while it is down", d.Arm(n), api.ErrDown)
	}
	want(t, "Crash", d.Crash(nil), api.OK)
	want(t, "not armed", d.Sync("s"), api.OK)
}

func TestAnEarlierArmCountsNoMore(t *testing.T) {
	d := armed(t)
	want(t, "Arm", d.Arm(3), api.OK)
	want(t, "first", d.Sync("s"), api.OK)
	want(t, "second", d.Sync("s"), api.OK)
	want(t, "Arm", d.Arm(math.MaxInt), api.OK)
	for range 100 {
		want(t, "many more", d.Sync("s"), api.OK)
	}
	want(t, "Arm", d.Arm(1), api.OK)
	want(t, "the next one", d.Sync("s"), api.ErrDown)
}

func TestADiskThatIsNotArmedStaysUp(t *testing.T) {
	d := full(t)
	for range 1000 {
		want(t, "Sync", d.Sync("s"), api.OK)
	}
	if d.Down() {
		t.Error("it is down")
	}
}

func TestCrashKeepsWhatIsSafeAndSomeOthers(t *testing.T) {
	for _, c := range []struct {
		keep  []int
		asked string
	}{
		{nil, "p=part| s=safe| u=| z=|"},
		{[]int{}, "p=part| s=safe| u=| z=|"},
		{[]int{0, 0}, "p=part| s=safe| u=| z=|"},
		{[]int{1}, "p=partl| s=safe| u=| z=|"},
		{[]int{2}, "p=partly| s=safe| u=| z=|"},
		{[]int{3}, "p=part| s=safe| u=| z=|"},
		{[]int{4, 1}, "p=partl| s=safe| u=u| z=|"},
		{[]int{2, 2}, "p=partly| s=safe| u=un| z=|"},
		{[]int{0, 5, 9}, "p=part| s=safe| u=un| z=|"},
		{[]int{-1, 2}, "p=part| s=safe| u=un| z=|"},
		{[]int{2, -1}, "p=partly| s=safe| u=| z=|"},
		{[]int{math.MinInt, math.MaxInt}, "p=part| s=safe| u=u| z=|"},
		{[]int{math.MaxInt, -2}, "p=partl| s=safe| u=| z=|"},
	} {
		for what, d := range map[string]*disk.Disk{"up": full(t), "armed": armed(t), "down": down(t)} {
			want(t, "Crash", d.Crash(c.keep), api.OK)
			holds(t, what, d, c.asked)
			for _, name := range d.List() {
				want(t, "Rename of what is safe then", d.Rename(name, name), api.OK)
			}
			want(t, "not armed any more", d.Sync("s"), api.OK)
		}
	}
}

func TestCrashUsesNumbersByRisingNames(t *testing.T) {
	for range 20 {
		d := made(t, 100)
		for _, name := range []string{"b", "a.9", "c", "a.10", "-"} {
			want(t, "Append", d.Append(name, "12345"), api.OK)
		}
		want(t, "Sync", d.Sync("b"), api.OK)
		want(t, "Crash", d.Crash([]int{1, 2, 3, 4, 5}), api.OK)
		holds(t, "by names", d, "-=1| a.10=12| a.9=123| b=12345| c=1234|")
	}
}

func TestASecondCrashKeepsWhatTheFirstOneKept(t *testing.T) {
	d := full(t)
	want(t, "Crash", d.Crash([]int{1, 1}), api.OK)
	want(t, "Crash", d.Crash(nil), api.OK)
	holds(t, "twice", d, "p=partl| s=safe| u=u| z=|")
	want(t, "Append", d.Append("u", "XY"), api.OK)
	want(t, "Crash", d.Crash([]int{1}), api.OK)
	holds(t, "thrice", d, "p=partl| s=safe| u=uX| z=|")
}

func TestCrashFreesRoom(t *testing.T) {
	d := made(t, 5)
	want(t, "Append", d.Append("a", "abcde"), api.OK)
	want(t, "Crash", d.Crash([]int{2}), api.OK)
	want(t, "too many", d.Append("a", "fghi"), api.ErrFull)
	want(t, "Append", d.Append("a", "fgh"), api.OK)
	holds(t, "a", d, "a=ab|fgh")
}

func TestTheExample(t *testing.T) {
	d := made(t, 100)
	want(t, "Append", d.Append("a", "abc"), api.OK)
	want(t, "Sync", d.Sync("a"), api.OK)
	want(t, "Append", d.Append("a", "defg"), api.OK)
	want(t, "Crash", d.Crash([]int{7}), api.OK)
	holds(t, "the example", d, "a=abcde|")
}

// ---- P12.2 to P12.6, held against a model: files as a list, told anew for each call

type modelFile struct {
	name, safe, others string
}

type model struct {
	room  int
	files []modelFile
	armed bool
	left  int
	down  bool
}

func (m *model) place(name string) int {
	return slices.IndexFunc(m.files, func(f modelFile) bool { return f.name == name })
}

func (m *model) used() int {
	n := 0
	for _, f := range m.files {
		n += len(f.safe + f.others)
	}
	return n
}

// fails counts a write.
func (m *model) fails() bool {
	if !m.armed {
		return false
	}
	m.left--
	m.down = m.left == 0
	m.armed = m.left > 0
	return m.down
}

func (m *model) takeAway(i int) {
	m.files = slices.Delete(slices.Clone(m.files), i, i+1)
}

func (m *model) append(name, s string, may bool) api.Errno {
	i := m.place(name)
	switch {
	case m.down:
		return api.ErrDown
	case !may:
		return api.ErrArg
	case m.used()+len(s) > m.room, i < 0 && (len(m.files) == 128 || len(s) > 65536),
		i >= 0 && len(m.files[i].safe+m.files[i].others+s) > 65536:
		return api.ErrFull
	}
	failed := m.fails()
	if i < 0 {
		m.files = append(m.files, modelFile{name: name})
		i = len(m.files) - 1
	}
	m.files[i].others += s
	if failed {
		return api.ErrDown
	}
	return api.OK
}

func (m *model) other(name string, do func(i int)) api.Errno {
	i := m.place(name)
	switch {
	case m.down:
		return api.ErrDown
	case i < 0:
		return api.ErrNone
	case m.fails():
		return api.ErrDown
	}
	do(i)
	return api.OK
}

func (m *model) sync(name string) api.Errno {
	return m.other(name, func(i int) {
		f := m.files[i]
		m.files[i] = modelFile{name, f.safe + f.others, ""}
	})
}

func (m *model) truncate(name string, n int) api.Errno {
	if i := m.place(name); !m.down && i >= 0 && (n < 0 || n > len(m.files[i].safe+m.files[i].others)) {
		return api.ErrRange
	}
	return m.other(name, func(i int) {
		f := m.files[i]
		all := (f.safe + f.others)[:n]
		safe := min(n, len(f.safe))
		m.files[i] = modelFile{name, all[:safe], all[safe:]}
	})
}

func (m *model) rename(from, to string, may bool) api.Errno {
	if m.down {
		return api.ErrDown
	}
	if !may {
		return api.ErrArg
	}
	if i := m.place(from); i >= 0 && m.files[i].others != "" {
		return api.ErrBusy
	}
	return m.other(from, func(i int) {
		f := m.files[i]
		m.takeAway(i)
		if j := m.place(to); j >= 0 {
			m.takeAway(j)
		}
		m.files = append(m.files, modelFile{to, f.safe, f.others})
	})
}

func (m *model) crash(keep []int) {
	slices.SortFunc(m.files, func(a, b modelFile) int { return strings.Compare(a.name, b.name) })
	next := 0
	for i, f := range m.files {
		kept := 0
		if f.others != "" && next < len(keep) {
			if keep[next] >= 0 {
				kept = keep[next] % (len(f.others) + 1)
			}
			next++
		}
		m.files[i] = modelFile{f.name, f.safe + f.others[:kept], ""}
	}
	m.down, m.armed = false, false
}

// told is what a model has, as much of it as a disk tells.
func (m *model) told() string {
	var all []string
	for _, f := range m.files {
		s := f.safe + f.others
		if m.down {
			s = "?"
		}
		all = append(all, f.name+" "+strconv.Itoa(len(f.safe))+" "+s)
	}
	slices.Sort(all)
	return strings.Join(all, "\n") + "\n" + strconv.Itoa(m.used()) + strconv.FormatBool(m.down)
}

// told is the same of a disk.
func told(t *testing.T, d *disk.Disk) string {
	t.Helper()
	var all []string
	for _, name := range d.List() {
		s, e := d.Read(name)
		if d.Down() {
			want(t, "Read", e, api.ErrDown)
			s = "?"
		} else {
			want(t, "Read", e, api.OK)
		}
		all = append(all, name+" "+strconv.Itoa(d.Safe(name))+" "+s)
	}
	return strings.Join(all, "\n") + "\n" + strconv.Itoa(d.Used()) + strconv.FormatBool(d.Down())
}

// play does one thing by chance to a disk and to a model of it.
func play(t *testing.T, r *rand.Rand, d *disk.Disk, m *model, pool []string, most int) {
	t.Helper()
	name, other := pool[r.Intn(len(pool))], pool[r.Intn(len(pool))]
	may := func(s string) bool { return s != "" && s != "No" }
	s := strings.Repeat(string(rune('a'+r.Intn(26))), r.Intn(most))
	n := r.Intn(most+2) - 1
	switch r.Intn(12) {
	case 0, 1, 2, 3:
		want(t, "Append", d.Append(name, s), m.append(name, s, may(name)))
	case 4, 5:
		want(t, "Sync", d.Sync(name), m.sync(name))
	case 6:
		want(t, "Truncate", d.Truncate(name, n), m.truncate(name, n))
	case 7:
		want(t, "Rename", d.Rename(name, other), m.rename(name, other, may(name) && may(other)))
	case 8:
		want(t, "Remove", d.Remove(name), m.other(name, func(i int) { m.takeAway(i) }))
	case 9:
		asked := api.OK
		if n := r.Intn(12); m.down {
			asked = api.ErrDown
			want(t, "Arm", d.Arm(n), asked)
		} else if n == 0 {
			want(t, "Arm", d.Arm(n), api.ErrArg)
		} else {
			want(t, "Arm", d.Arm(n), asked)
			m.armed, m.left = true, n
		}
	case 10:
		if r.Intn(3) == 0 || m.down {
			keep := make([]int, r.Intn(5))
			for i := range keep {
				keep[i] = r.Intn(3*most) - most/2
			}
			m.crash(keep)
			want(t, "Crash", d.Crash(keep), api.OK)
		}
	}
	if asked, got := m.told(), told(t, d); got != asked {
		t.Fatalf("%q, not %q", got, asked)
	}
}

func TestAllCallsDoAsAModelDoes(t *testing.T) {
	pool := []string{"a", "b", "a.1", "a.10", "a.9", "-", "_", "", "No"}
	for seed := range 200 {
		r := rand.New(rand.NewSource(int64(seed)))
		room := r.Intn(200)
		d, m := made(t, room), &model{room: room}
		for range 300 {
			play(t, r, d, m, pool, 1+r.Intn(40))
			if t.Failed() {
				t.Fatalf("seed %d", seed)
			}
		}
	}
}

func TestManyFilesDoAsAModelDoes(t *testing.T) {
	var pool []string
	for i := range 150 {
		pool = append(pool, "f."+strconv.Itoa(i))
	}
	r := rand.New(rand.NewSource(5))
	d, m := made(t, 1<<20), &model{room: 1 << 20}
	for range 3000 {
		name := pool[r.Intn(len(pool))]
		want(t, "Append", d.Append(name, "x"), m.append(name, "x", true))
		if r.Intn(10) == 0 {
			play(t, r, d, m, pool, 30000)
		}
		if t.Failed() {
			t.FailNow()
		}
	}
}

// ---- P12.5 (safe)

// A life is what of a file was safe, and has not been truncated, removed or replaced since; and all that was there.
type life struct {
	safe, all string
}

func TestWhatIsSafeIsThereBehindAnyCrash(t *testing.T) {
	names := []string{"a", "b", "c"}
	for seed := range 300 {
		r := rand.New(rand.NewSource(int64(seed)))
		d := made(t, 500)
		lives := map[string]life{}
		want(t, "Arm", d.Arm(1+r.Intn(30)), api.OK)
		for !d.Down() {
			name := names[r.Intn(3)]
			switch r.Intn(3) {
			case 0, 1:
				s := strconv.Itoa(r.Intn(1000))
				if e := d.Append(name, s); e == api.OK || e == api.ErrDown {
					lives[name] = life{lives[name].safe, lives[name].all + s}
				}
			case 2:
				if d.Sync(name) == api.OK {
					lives[name] = life{lives[name].all, lives[name].all}
				}
			}
		}
		want(t, "Crash", d.Crash([]int{r.Intn(100), r.Intn(100), r.Intn(100)}), api.OK)
		for name, l := range lives {
			s, e := d.Read(name)
			want(t, "Read", e, api.OK)
			if !strings.HasPrefix(s, l.safe) || !strings.HasPrefix(l.all, s) {
				t.Errorf("%s: %q, safe was %q, there was %q", name, s, l.safe, l.all)
			}
		}
	}
}

func TestEveryPartOfWhatIsNotSafeCanBeKept(t *testing.T) {
	for kept := range 6 {
		d := made(t, 100)
		want(t, "Append", d.Append("a", "12"), api.OK)
		want(t, "Sync", d.Sync("a"), api.OK)
		want(t, "Append", d.Append("a", "34567"), api.OK)
		want(t, "Crash", d.Crash([]int{kept + 6*kept}), api.OK)
		if s, _ := d.Read("a"); s != "1234567"[:2+kept] || d.Safe("a") != 2+kept {
			t.Errorf("%d: %q, %d", kept, s, d.Safe("a"))
		}
	}
}

// ---- P12.6 (within)

func TestThereIsNeverMoreThanMayBe(t *testing.T) {
	for seed := range 20 {
		r := rand.New(rand.NewSource(int64(seed)))
		room := r.Intn(1<<20 + 1)
		d := made(t, room)
		for range 400 {
			name := "f" + strconv.Itoa(r.Intn(140))
			d.Append(name, strings.Repeat("x", r.Intn(40000)*r.Intn(3)))
			switch r.Intn(20) {
			case 0:
				d.Rename(name, "f"+strconv.Itoa(r.Intn(140)))
			case 1:
				d.Arm(1)
			case 2:
				d.Crash([]int{r.Intn(70000), r.Intn(70000)})
			case 3:
				d.Sync(name)
			}
			if d.Used() > room || len(d.List()) > 128 {
				t.Fatalf("%d bytes of %d, %d files", d.Used(), room, len(d.List()))
			}
			for _, name := range d.List() {
				if s, _ := d.Read(name); len(s) > 65536 || d.Safe(name) > 65536 {
					t.Fatalf("%s has %d bytes", name, len(s))
				}
			}
		}
	}
}

// ---- R1 to R4

func TestCrashLeavesItsNumbers(t *testing.T) {
	keep := []int{1, -2, 3, 4, 5}
	d := full(t)
	want(t, "Crash", d.Crash(keep[:3]), api.OK)
	if !slices.Equal(keep, []int{1, -2, 3, 4, 5}) {
		t.Errorf("%v", keep)
	}
}

func TestAnswersAreNewMemory(t *testing.T) {
	d := full(t)
	l := d.List()
	for i := range l {
		l[i] = "other"
	}
	_ = append(l, "more")
	holds(t, "List", d, asFull)
	for _, name := range []string{"p", "s", "u"} {
		one, _ := d.Read(name)
		another, _ := d.Read(name)
		if unsafe.StringData(one) == unsafe.StringData(another) {
			t.Errorf("Read %s: the same memory", name)
		}
	}
}

func TestNothingIsKeptAsItIs(t *testing.T) {
	mine := []byte("nametexts")
	name, text, other := unsafe.String(&mine[0], 4), unsafe.String(&mine[4], 4), unsafe.String(&mine[8], 1)
	d := made(t, 100)
	want(t, "Append", d.Append(name, text), api.OK)
	want(t, "Append", d.Append("a", "b"), api.OK)
	want(t, "Sync", d.Sync("a"), api.OK)
	want(t, "Rename", d.Rename("a", other), api.OK)
	copy(mine, "XXXXXXXXX")
	holds(t, "as it was", d, "name=|text s=b|")
}

func TestTwoDisksAreApart(t *testing.T) {
	a, b := full(t), full(t)
	want(t, "Remove", a.Remove("s"), api.OK)
	want(t, "Append", a.Append("p", "!"), api.OK)
	want(t, "Arm", a.Arm(1), api.OK)
	want(t, "Sync", b.Sync("s"), api.OK)
	holds(t, "the other one", b, asFull)
}

func TestNothingPanics(t *testing.T) {
	texts := []string{"", "a", "A", "\xff", strings.Repeat("a", 1<<17)}
	numbers := []int{math.MinInt, -1, 0, 1, 2, 65536, 1 << 20, math.MaxInt}
	for _, room := range []int{0, 3, 1 << 20} {
		d := made(t, room)
		for _, x := range texts {
			for _, y := range texts {
				d.Append(x, y)
				d.Sync(x)
				d.Rename(x, y)
				d.Read(x)
				d.Safe(x)
			}
			for _, n := range numbers {
				d.Append(x, "xyz")
				d.Truncate(x, n)
				d.Arm(n)
				d.Crash([]int{n, n})
				d.Crash(numbers)
			}
			d.Remove(x)
		}
	}
}
