package wal_test

import (
	"encoding/binary"
	"hash/crc32"
	"math"
	"math/rand"
	"slices"
	"strconv"
	"strings"
	"testing"
	"unsafe"

	"surmise/api"
	"surmise/disk"
	"surmise/wal"
)

// digits is a number's bytes, by the library's means.
func digits(n int) string {
	return string(binary.AppendVarint(nil, int64(n)))
}

// sealed is a text with its sum behind it.
func sealed(s string) string {
	sum := crc32.Checksum([]byte(s), crc32.MakeTable(crc32.Castagnoli))
	return s + string(binary.LittleEndian.AppendUint32(nil, sum))
}

// framed is bytes behind their length.
func framed(s string) string {
	return digits(len(s)) + s
}

// laid is the bytes of records from a number on.
func laid(first int, records ...string) string {
	s := ""
	for i, r := range records {
		s += framed(sealed(digits(first+i) + r))
	}
	return s
}

// made is a new disk.
func made(t *testing.T) *disk.Disk {
	t.Helper()
	d, e := disk.New(api.MaxRoom)
	if e != api.OK {
		t.Fatalf("New: %d", e)
	}
	return d
}

// put lets a file be on a disk, safe.
func put(t *testing.T, d *disk.Disk, name, s string) {
	t.Helper()
	want(t, "put "+name, d.Append(name, s), api.OK)
	want(t, "put "+name, d.Sync(name), api.OK)
}

// opened is a log that must open.
func opened(t *testing.T, d *disk.Disk, most int) *wal.Log {
	t.Helper()
	l, e := wal.Open(d, "log", most)
	if e != api.OK || l == nil {
		t.Fatalf("Open: %v, %d", l, e)
	}
	return l
}

// add appends records that must find room.
func add(t *testing.T, l *wal.Log, records ...string) {
	t.Helper()
	for _, r := range records {
		asked := l.Next()
		n, e := l.Append(r)
		if n != asked || e != api.OK {
			t.Fatalf("Append: %d, %d, not %d", n, e, asked)
		}
	}
}

// want holds an error against the one that is asked for.
func want(t *testing.T, what string, got, asked api.Errno) {
	t.Helper()
	if got != asked {
		t.Errorf("%s: error %d, not %d", what, got, asked)
	}
}

// shown is what a log has: the first record's number, the records, how far they are safe.
func shown(t *testing.T, l *wal.Log) string {
	t.Helper()
	s := strconv.Itoa(l.First()) + ":"
	for i := l.First(); i < l.Next(); i++ {
		r, e := l.Read(i)
		want(t, "Read", e, api.OK)
		s += " " + r
	}
	return s + " safe " + strconv.Itoa(l.Safe())
}

// holds holds a log against what is asked for, as shown tells it.
func holds(t *testing.T, what string, l *wal.Log, asked string) {
	t.Helper()
	if got := shown(t, l); got != asked {
		t.Errorf("%s: %q, not %q", what, got, asked)
	}
}

// files holds a disk's names against those that are asked for.
func files(t *testing.T, what string, d *disk.Disk, asked string) {
	t.Helper()
	if got := strings.Join(d.List(), " "); got != asked {
		t.Errorf("%s: files %q, not %q", what, got, asked)
	}
}

// file holds a file's bytes against those that are asked for.
func file(t *testing.T, d *disk.Disk, name, asked string) {
	t.Helper()
	if got, e := d.Read(name); got != asked || e != api.OK {
		t.Errorf("%s: %q, %d, not %q", name, got, e, asked)
	}
}

// down is a disk that is down, with a record of the log.
func down(t *testing.T) *disk.Disk {
	t.Helper()
	d := made(t)
	put(t, d, "log.0", laid(0, "a"))
	want(t, "Arm", d.Arm(1), api.OK)
	want(t, "Sync", d.Sync("log.0"), api.ErrDown)
	return d
}

// ---- P13.1 (Parse)

// parsed is what Parse should tell: as long as bytes begin with those of a record of the next number, whatever it is.
func parsed(s string, first int) ([]string, int) {
	var records []string
	at := 0
	for first >= 0 {
		n, width := binary.Varint([]byte(s[at:]))
		size := int(n) - len(digits(first)) - 4
		from := at + width + len(digits(first))
		if width <= 0 || size < 0 || size > 1024 || from+size > len(s) {
			break
		}
		record := s[from : from+size]
		if !strings.HasPrefix(s[at:], laid(first, record)) {
			break
		}
		records = append(records, record)
		at += len(laid(first, record))
		if first == math.MaxInt {
			break
		}
		first++
	}
	return records, at
}

// parses holds Parse against what it should tell.
func parses(t *testing.T, what, s string, first int, records []string, behind int) {
	t.Helper()
	got, place := wal.Parse(s, first)
	if !slices.Equal(got, records) || place != behind {
		t.Errorf("Parse %s: %q, %d, not %q, %d", what, got, place, records, behind)
	}
}

func TestParseTellsTheRecordsOfASegment(t *testing.T) {
	for _, records := range [][]string{
		nil, {""}, {"a"}, {"a", "b"}, {"", "", ""}, {"\x00\xff", "long " + strings.Repeat("x", 200), "end"},
		{strings.Repeat("m", 1024), strings.Repeat("n", 1023)},
	} {
		for _, first := range []int{0, 1, 63, 64, 8190, 1 << 20, 1<<40 - 1, 1 << 40, 1<<40 + 1, math.MaxInt - 5} {
			s := laid(first, records...)
			parses(t, "of records", s, first, records, len(s))
		}
	}
	parses(t, "as bytes", "\x0c\x00a\x47\x96\x1c\xd2", 0, nil, 0)
	parses(t, "as bytes", "\x0c\x00a"+sealed("\x00a")[2:], 0, []string{"a"}, 7)
}

func TestParseOfNoNumberTellsNothing(t *testing.T) {
	for _, first := range []int{-1, -2, math.MinInt} {
		parses(t, "of no number", laid(first, "a"), first, nil, 0)
		parses(t, "of no number", laid(0, "a"), first, nil, 0)
		parses(t, "of no number", "", first, nil, 0)
	}
}

func TestParseEndsWhereBytesEnd(t *testing.T) {
	records := []string{"first", "", strings.Repeat("x", 70)}
	s := laid(7, records...)
	for n := 0; n <= len(s); n++ {
		whole := 0
		for whole < len(records) && len(laid(7, records[:whole+1]...)) <= n {
			whole++
		}
		parses(t, "of the first "+strconv.Itoa(n), s[:n], 7, records[:whole], len(laid(7, records[:whole]...)))
	}
}

func TestParseEndsAtSpoiltBytes(t *testing.T) {
	records := []string{"first", "second", "third"}
	s := laid(7, records...)
	for at := range len(s) {
		for bit := range 8 {
			b := []byte(s)
			b[at] ^= 1 << bit
			whole := 0
			for len(laid(7, records[:whole+1]...)) <= at {
				whole++
			}
			parses(t, "of spoilt bytes", string(b), 7, records[:whole], len(laid(7, records[:whole]...)))
		}
	}
}

func TestParseEndsWhereAnotherNumberStands(t *testing.T) {
	s := laid(3, "a", "b")
	for _, other := range []int{-1, 0, 3, 4, 6, 69, math.MaxInt, math.MinInt} {
		parses(t, "another number", s+laid(other, "c"), 3, []string{"a", "b"}, len(s))
		parses(t, "another number", s+laid(other, "c")+laid(5, "c"), 3, []string{"a", "b"}, len(s))
	}
	parses(t, "the next number", s+laid(5, "c"), 3, []string{"a", "b", "c"}, len(s+laid(5, "c")))
	parses(t, "another first one", s, 2, nil, 0)
	parses(t, "another first one", s, 4, nil, 0)
}

func TestParseEndsBehindTheGreatestNumber(t *testing.T) {
	s := laid(math.MaxInt, "a")
	parses(t, "the greatest one", s, math.MaxInt, []string{"a"}, len(s))
	for _, other := range []int{math.MinInt, 0, math.MaxInt} {
		parses(t, "the greatest one", s+laid(other, "b"), math.MaxInt, []string{"a"}, len(s))
	}
}

func TestParseEndsAtWhatNobodyLays(t *testing.T) {
	long := strings.Repeat("x", 1025)
	body := sealed(digits(5) + "c")
	for what, bad := range map[string]string{
		"a record of 1025 bytes":       laid(5, long),
		"a record of 4000 bytes":       laid(5, strings.Repeat("x", 4000)),
		"a record of 5000 bytes":       laid(5, strings.Repeat("x", 5000)),
		"a length below 0":             digits(-len(body)) + body,
		"a length with a needless 0":   string([]byte{byte(2*len(body)) | 128, 0}) + body,
		"a number with a needless 0":   framed(sealed("\x8a\x00c")),
		"a number that does not end":   framed(sealed("\x8a")),
		"a number of eleven bytes":     framed(sealed(strings.Repeat("\xff", 10) + "\x01c")),
		"no number":                    framed(sealed("")),
		"three bytes":                  framed("abc"),
		"no bytes":                     framed(""),
		"a sum that is another one":    framed(digits(5) + "cabcd"),
		"a sum with its bytes turned":  framed(string([]byte{body[0], body[1], body[5], body[4], body[3], body[2]})),
		"a sum of the record alone":    framed(digits(5) + sealed("c")),
		"a sum of the length, too":     framed(sealed(framed(digits(5) + "c"))),
		"a length of what is sealed":   digits(len(body)-4) + body,
		"a length that is too great":   digits(len(body)+1) + body,
		"a length that is far too big": digits(math.MaxInt) + body,
		"the number as a text":         framed(sealed("5c")),
		"zeros":                        strings.Repeat("\x00", 100),
	} {
		s := laid(3, "a", "b")
		parses(t, what, s+bad, 3, []string{"a", "b"}, len(s))
		parses(t, what, s+bad+laid(5, "c"), 3, []string{"a", "b"}, len(s))
		parses(t, what, bad, 5, nil, 0)
	}
}

func TestParseOfAnyBytes(t *testing.T) {
	r := rand.New(rand.NewSource(1301))
	for range 20000 {
		first := []int{0, 1, 60, 100, 1 << 40, math.MaxInt - 1, -1}[r.Intn(7)]
		s := ""
		for range r.Intn(5) {
			switch r.Intn(6) {
			case 0:
				s += string([]byte{byte(r.Intn(256))})
			case 1:
				s += framed(sealed(digits(r.Intn(70))))
			default:
				s += laid(max(first, 0), strings.Split("a b c d e", " ")[:r.Intn(5)]...)
			}
		}
		if b := []byte(s); len(b) > 0 && r.Intn(2) == 0 {
			b[r.Intn(len(b))] = byte(r.Intn(256))
			s = string(b)
		}
		records, behind := parsed(s, first)
		parses(t, strconv.Quote(s), s, first, records, behind)
	}
}

func TestParseTakesWhatIsVeryLong(t *testing.T) {
	var records []string
	var s strings.Builder
	for n := range 4000 {
		records = append(records, strings.Repeat("y", 1000))
		s.WriteString(laid(n, records[n]))
	}
	parses(t, "much", s.String(), 0, records, s.Len())
}

// ---- P13.2 (Open)

func TestOpenRefusesWhatMayNotBe(t *testing.T) {
	for _, c := range []struct {
		d     *disk.Disk
		name  string
		most  int
		asked api.Errno
	}{
		{nil, "log", 64, api.ErrNil},
		{nil, "", 63, api.ErrNil},
		{made(t), "", 64, api.ErrArg},
		{made(t), "abcdefghi", 64, api.ErrArg},
		{made(t), strings.Repeat("a", 1<<20), 64, api.ErrArg},
		{made(t), "Log", 64, api.ErrArg},
		{made(t), "lo`", 64, api.ErrArg},
		{made(t), "{og", 64, api.ErrArg},
		{made(t), "log1", 64, api.ErrArg},
		{made(t), "l.g", 64, api.ErrArg},
		{made(t), "l g", 64, api.ErrArg},
		{made(t), "lög", 64, api.ErrArg},
		{made(t), "l\xffg", 64, api.ErrArg},
		{made(t), "log\x00", 64, api.ErrArg},
		{made(t), "log", 63, api.ErrArg},
		{made(t), "log", 0, api.ErrArg},
		{made(t), "log", -64, api.ErrArg},
		{made(t), "log", math.MinInt, api.ErrArg},
		{made(t), "log", 65537, api.ErrArg},
		{made(t), "log", math.MaxInt, api.ErrArg},
		{down(t), "", 64, api.ErrArg},
		{down(t), "log", 63, api.ErrArg},
		{down(t), "log", 64, api.ErrDown},
		{down(t), "other", 64, api.ErrDown},
	} {
		l, e := wal.Open(c.d, c.name, c.most)
		if l != nil {
			t.Errorf("Open(%q, %d) opens a log", c.name, c.most)
		}
		want(t, "Open", e, c.asked)
	}
	for _, name := range []string{"a", "z", "abcdefgh", "log"} {
		for _, most := range []int{64, 65, 1000, 65536} {
			d := made(t)
			l, e := wal.Open(d, name, most)
			want(t, "Open", e, api.OK)
			n, e := l.Append("x")
			if n != 0 || e != api.OK {
				t.Errorf("Append: %d, %d", n, e)
			}
			files(t, "Open", d, name+".0")
		}
	}
}

func TestOpenOfADiskWithoutSegmentsHasNothing(t *testing.T) {
	d := made(t)
	want(t, "Arm", d.Arm(1), api.OK)
	l := opened(t, d, 64)
	holds(t, "nothing", l, "0: safe 0")
	files(t, "nothing", d, "")
	if d.Down() {
		t.Error("something was written")
	}
}

func TestOpenTakesTheSegmentsThatFollow(t *testing.T) {
	for _, c := range []struct {
		what   string
		files  map[string]string
		asked  string
		left   string
		broken string // what is left of the last one
	}{
		{"one", map[string]string{"log.0": laid(0, "a", "b")}, "0: a b safe 2", "log.0", laid(0, "a", "b")},
		{"one that begins later", map[string]string{"log.7": laid(7, "a", "b")}, "7: a b safe 9", "log.7", laid(7, "a", "b")},
		{"one that is empty", map[string]string{"log.7": ""}, "7: safe 7", "log.7", ""},
		{"three", map[string]string{"log.0": laid(0, "a", "b"), "log.2": laid(2, "c"), "log.3": laid(3, "d", "e")},
			"0: a b c d e safe 5", "log.0 log.2 log.3", laid(3, "d", "e")},
		{"by numbers", map[string]string{"log.8": laid(8, "a", "b"), "log.10": laid(10, "c"), "log.11": laid(11, "d")},
			"8: a b c d safe 12", "log.10 log.11 log.8", laid(11, "d")},
		{"an empty one behind", map[string]string{"log.0": laid(0, "a", "b"), "log.2": ""}, "0: a b safe 2", "log.0 log.2", ""},
		{"a torn one behind", map[string]string{"log.0": laid(0, "a", "b"), "log.2": "\x0c\x04c"}, "0: a b safe 2", "log.0 log.2", ""},
		{"torn at the end", map[string]string{"log.0": laid(0, "a"), "log.1": laid(1, "b") + "\x0c\x04"},
			"0: a b safe 2", "log.0 log.1", laid(1, "b")},
		{"a gap", map[string]string{"log.0": laid(0, "a", "b"), "log.3": laid(3, "d"), "log.4": laid(4, "e")},
			"0: a b safe 2", "log.0", laid(0, "a", "b")},
		{"a gap at the third", map[string]string{"log.0": laid(0, "a"), "log.1": laid(1, "b"), "log.3": laid(3, "d")},
			"0: a b safe 2", "log.0 log.1", laid(1, "b")},
		{"within another one", map[string]string{"log.0": laid(0, "a", "b", "c"), "log.1": laid(1, "b", "c"), "log.3": laid(3, "d")},
			"0: a b c safe 3", "log.0", laid(0, "a", "b", "c")},
		{"torn in the middle", map[string]string{"log.0": laid(0, "a"), "log.1": laid(1, "b") + "!", "log.2": laid(2, "c"), "log.3": laid(3, "d")},
			"0: a b safe 2", "log.0 log.1", laid(1, "b")},
		{"the first one torn", map[string]string{"log.2": "!" + laid(2, "b"), "log.3": laid(3, "c")}, "2: safe 2", "log.2", ""},
		{"an empty one at first", map[string]string{"log.2": "", "log.3": laid(3, "c")}, "2: safe 2", "log.2", ""},
		{"records of other numbers", map[string]string{"log.2": laid(0, "a", "b"), "log.4": laid(4, "c")}, "2: safe 2", "log.2", ""},
		{"a record too long", map[string]string{"log.0": laid(0, "a", strings.Repeat("x", 1025)), "log.2": laid(2, "c")},
			"0: a safe 1", "log.0", laid(0, "a")},
		{"more bytes than most", map[string]string{"log.0": laid(0, strings.Repeat("x", 500), "b"), "log.2": laid(2, "c")},
			"0: " + strings.Repeat("x", 500) + " b c safe 3", "log.0 log.2", laid(2, "c")},
		{"the greatest number", map[string]string{"log.1099511627776": laid(1<<40, "a")}, "1099511627776: a safe 1099511627777",
			"log.1099511627776", laid(1<<40, "a")},
	} {
		d := made(t)
		for name, s := range c.files {
			put(t, d, name, s)
		}
		holds(t, c.what, opened(t, d, 64), c.asked)
		files(t, c.what, d, c.left)
		last := strings.Fields(c.left)
		slices.SortFunc(last, func(a, b string) int { return number(a) - number(b) })
		file(t, d, last[len(last)-1], c.broken)
		holds(t, c.what+", again", opened(t, d, 64), c.asked)
	}
}

// number is that of a segment's name.
func number(name string) int {
	n, _ := strconv.Atoi(strings.TrimPrefix(name, "log."))
	return n
}

func TestOpenLeavesFilesOfOtherNames(t *testing.T) {
	others := []string{"log", "log.", "log.00", "log.01", "log.-1", "log.1.", "log.1.2", "log.1a", "log.a", "log.new", "log.0x1", "log.1_0",
		"log.1099511627777", "log.9223372036854775807", "log.9223372036854775808", "log-1", "logs.1", "alog.1", "lo.1", ".1", "1"}
	d := made(t)
	for i, name := range others {
		if len(name) <= 24 {
			put(t, d, name, laid(i%3, "no record"))
		}
	}
	before := strings.Join(d.List(), " ")
	l := opened(t, d, 64)
	holds(t, "others", l, "0: safe 0")
	files(t, "others", d, before)
	add(t, l, "a")
	holds(t, "others", opened(t, d, 64), "0: a safe 1")
	want(t, "Remove", d.Remove("log.0"), api.OK)
	files(t, "others", d, before)
}

func TestOpenMakesAllSafe(t *testing.T) {
	for writes := 1; writes <= 5; writes++ { // to truncate, and to sync all three; the fifth one is no more Open's
		d := made(t)
		want(t, "Append", d.Append("log.0", laid(0, "a", "b")), api.OK)
		want(t, "Append", d.Append("log.2", laid(2, "c")), api.OK)
		want(t, "Append", d.Append("log.3", laid(3, "d")+"torn"), api.OK)
		want(t, "Arm", d.Arm(writes), api.OK)
		if writes < 5 {
			l, e := wal.Open(d, "log", 64)
			if l != nil {
				t.Error("there is a log, though not all is safe")
			}
			want(t, "Open", e, api.ErrDown)
			continue
		}
		holds(t, "not safe", opened(t, d, 64), "0: a b c d safe 4")
		for _, name := range d.List() {
			if s, _ := d.Read(name); d.Safe(name) != len(s) {
				t.Errorf("of %s %d bytes are safe, of %d", name, d.Safe(name), len(s))
			}
		}
		want(t, "Crash", d.Crash(nil), api.OK)
		holds(t, "behind a crash", opened(t, d, 64), "0: a b c d safe 4")
	}
}

// spoilt is a disk on which Open has five writes to do: three files to remove, one to truncate, and to sync.
func spoilt(t *testing.T) *disk.Disk {
	t.Helper()
	d := made(t)
	put(t, d, "log.0", laid(0, "a"))
	put(t, d, "log.1", laid(1, "b")+"!")
	put(t, d, "log.2", laid(2, "c"))
	put(t, d, "log.9", laid(9, "d"))
	put(t, d, "log.10", laid(10, "e"))
	return d
}

func TestOpenWritesInOrder(t *testing.T) {
	torn := laid(1, "b") + "!"
	for n, c := range []struct{ left, second string }{
		{"log.0 log.1 log.10 log.2 log.9", torn},
		{"log.0 log.1 log.2 log.9", torn},
		{"log.0 log.1 log.2", torn},
		{"log.0 log.1", torn},
		{"log.0 log.1", laid(1, "b")},
	} {
		d := spoilt(t)
		want(t, "Arm", d.Arm(n+1), api.OK)
		l, e := wal.Open(d, "log", 64)
		if l != nil {
			t.Errorf("there is a log, though the disk goes down at the write %d", n+1)
		}
		want(t, "Open", e, api.ErrDown)
		files(t, "down at a write", d, c.left)
		want(t, "Crash", d.Crash(nil), api.OK)
		file(t, d, "log.1", c.second)
		holds(t, "behind it", opened(t, d, 64), "0: a b safe 2")
	}
	d := spoilt(t)
	want(t, "Arm", d.Arm(6), api.OK)
	holds(t, "five writes", opened(t, d, 64), "0: a b safe 2")
	want(t, "the sixth one", d.Sync("log.0"), api.ErrDown)
}

func TestOpenWithNothingTornSyncsAlone(t *testing.T) {
	d := made(t)
	put(t, d, "log.0", laid(0, "a"))
	put(t, d, "log.1", laid(1, "b"))
	want(t, "Arm", d.Arm(1), api.OK)
	_, e := wal.Open(d, "log", 64)
	want(t, "Open", e, api.ErrDown)
	want(t, "Crash", d.Crash(nil), api.OK)
	want(t, "Arm", d.Arm(2), api.OK)
	holds(t, "Open", opened(t, d, 64), "0: a b safe 2")
	want(t, "the second one", d.Sync("log.0"), api.ErrDown)
}

// ---- P13.3 (Append)

func TestAppendLaysRecordsInSegments(t *testing.T) {
	d := made(t)
	l := opened(t, d, 64)
	var records []string
	segments := map[string]string{}
	into := ""
	for n := range 200 {
		if into == "" || len(segments[into]) >= 64 {
			into = "log." + strconv.Itoa(n)
		}
		record := strings.Repeat(string(rune('a'+n%26)), n%40)
		segments[into] += laid(n, record)
		records = append(records, record)
		add(t, l, record)
	}
	for name, s := range segments {
		file(t, d, name, s)
	}
	if len(d.List()) != len(segments) {
		t.Errorf("%d files, not %d", len(d.List()), len(segments))
	}
	for i, r := range records {
		if got, e := l.Read(i); got != r || e != api.OK {
			t.Errorf("Read(%d): %q, %d, not %q", i, got, e, r)
		}
	}
}

// fill appends records that have so many bytes together.
func fill(t *testing.T, l *wal.Log, size int) {
	t.Helper()
	for size > 0 {
		record := strings.Repeat("x", min(size, 500))
		for size <= 500 && len(record) > 0 && len(laid(l.Next(), record)) != size {
			record = record[1:]
		}
		add(t, l, record)
		size -= len(laid(l.Next()-1, record))
	}
}

func TestAppendBeginsASegmentAtMostBytes(t *testing.T) {
	for _, most := range []int{64, 100, 1000, 40000} {
		for off := -1; off <= 1; off++ {
			d := made(t)
			l := opened(t, d, most)
			fill(t, l, most+off)
			s, _ := d.Read("log.0")
			if len(s) != most+off {
				t.Fatalf("%d bytes, not %d", len(s), most+off)
			}
			n := l.Next()
			add(t, l, "y")
			asked := "log.0 log." + strconv.Itoa(n)
			if off < 0 {
				asked = "log.0"
			}
			files(t, "most "+strconv.Itoa(most), d, asked)
		}
	}
}

func TestAppendTakesRecordsOfAnyLength(t *testing.T) {
	for _, n := range []int{0, 1, 1023, 1024} {
		d := made(t)
		l := opened(t, d, 65536)
		r := strings.Repeat("\xff", n)
		add(t, l, r, r)
		file(t, d, "log.0", laid(0, r, r))
		if got, e := opened(t, d, 65536).Read(1); got != r || e != api.OK {
			t.Errorf("Read: %d bytes, %d", len(got), e)
		}
	}
	for _, n := range []int{1025, 4096, 5000, 1 << 21} {
		d := made(t)
		l := opened(t, d, 64)
		add(t, l, "a")
		i, e := l.Append(strings.Repeat("x", n))
		if i != 0 {
			t.Errorf("Append: %d", i)
		}
		want(t, "Append", e, api.ErrBig)
		holds(t, "too big", l, "0: a safe 0")
		file(t, d, "log.0", laid(0, "a"))
	}
}

func TestAppendGoesOnWhereALogWas(t *testing.T) {
	d := made(t)
	put(t, d, "log.7", laid(7, "a"))
	l := opened(t, d, 64)
	add(t, l, "b")
	file(t, d, "log.7", laid(7, "a", "b"))
	put(t, d, "log.9", "")
	m := opened(t, d, 64)
	add(t, m, "c")
	file(t, d, "log.9", laid(9, "c"))
	files(t, "an empty one", d, "log.7 log.9")
	holds(t, "an empty one", m, "7: a b c safe 9")

	d = made(t)
	put(t, d, "log.3", laid(3, strings.Repeat("x", 64))+"torn")
	l = opened(t, d, 64)
	add(t, l, "b")
	file(t, d, "log.4", laid(4, "b"))

	d = made(t)
	put(t, d, "log.3", laid(3, "a")+strings.Repeat("torn", 20))
	l = opened(t, d, 64)
	add(t, l, "b")
	file(t, d, "log.3", laid(3, "a", "b"))
}

func TestAppendSyncsWhatIsAhead(t *testing.T) {
	long := strings.Repeat("x", 60)
	d := made(t)
	l := opened(t, d, 64)
	add(t, l, "a", long)
	holds(t, "one segment", l, "0: a "+long+" safe 0")
	add(t, l, "c")
	holds(t, "two segments", l, "0: a "+long+" c safe 2")
	if d.Safe("log.0") != len(laid(0, "a", long)) || d.Safe("log.2") != 0 {
		t.Errorf("%d, %d bytes are safe", d.Safe("log.0"), d.Safe("log.2"))
	}
}

func TestAppendTellsTheDisksErrors(t *testing.T) {
	long := strings.Repeat("x", 60)
	refused := func(what string, l *wal.Log, e api.Errno, asked string) {
		t.Helper()
		n, got := l.Append("lost")
		if n != 0 {
			t.Errorf("%s: %d", what, n)
		}
		want(t, what, got, e)
		holds(t, what, l, asked)
	}
	d := made(t)
	l := opened(t, d, 64)
	add(t, l, "a")
	want(t, "Arm", d.Arm(1), api.OK)
	refused("down at Append", l, api.ErrDown, "0: a safe 0")
	refused("down ahead of Append", l, api.ErrDown, "0: a safe 0")

	d = made(t)
	l = opened(t, d, 64)
	add(t, l, "a", long)
	want(t, "Arm", d.Arm(1), api.OK)
	refused("down at the Sync", l, api.ErrDown, "0: a "+long+" safe 0")
	files(t, "down at the Sync", d, "log.0")

	d = made(t)
	l = opened(t, d, 64)
	add(t, l, "a", long)
	want(t, "Arm", d.Arm(2), api.OK)
	refused("down at the new segment", l, api.ErrDown, "0: a "+long+" safe 2")
	files(t, "down at the new segment", d, "log.0 log.2")

	d, _ = disk.New(0)
	l = opened(t, d, 64)
	refused("no room at all", l, api.ErrFull, "0: safe 0")
	files(t, "no room at all", d, "")

	d, _ = disk.New(len(laid(0, "a", long)) + 8)
	l = opened(t, d, 64)
	add(t, l, "a", long)
	refused("no room for it", l, api.ErrFull, "0: a "+long+" safe 2")
	files(t, "no room for it", d, "log.0")
	add(t, l, "c")
	holds(t, "room for a short one", l, "0: a "+long+" c safe 2")
	holds(t, "room for a short one", opened(t, d, 64), "0: a "+long+" c safe 3")

	d = made(t)
	l = opened(t, d, 64)
	add(t, l, "a", long)
	want(t, "Remove", d.Remove("log.0"), api.OK)
	refused("somebody took the segment away", l, api.ErrNone, "0: a "+long+" safe 0")
}

func TestAppendAtMostFilesAndBytes(t *testing.T) {
	long := strings.Repeat("x", 60)
	d := made(t)
	l := opened(t, d, 64)
	for range 128 {
		add(t, l, long)
	}
	n, e := l.Append(long)
	if n != 0 || l.Next() != 128 {
		t.Errorf("Append: %d, then %d", n, l.Next())
	}
	want(t, "too many files", e, api.ErrFull)
	want(t, "Trim", l.Trim(1), api.OK)
	add(t, l, long)

	d = made(t)
	l = opened(t, d, 65536)
	for range 63 {
		add(t, l, strings.Repeat("x", 1020))
	}
	_, e = l.Append(strings.Repeat("x", 1020))
	want(t, "too many bytes", e, api.ErrFull)
	files(t, "too many bytes", d, "log.0")
	add(t, l, strings.Repeat("x", 300))
}

func TestAppendBehindTheGreatestSegment(t *testing.T) {
	d := made(t)
	put(t, d, "log.1099511627775", laid(1<<40-1, strings.Repeat("x", 64)))
	l := opened(t, d, 64)
	add(t, l, "a", strings.Repeat("x", 64))
	files(t, "the greatest one", d, "log.1099511627775 log.1099511627776")
	n, e := l.Append("b")
	if n != 0 || l.Next() != 1<<40+2 || l.Safe() != 1<<40 {
		t.Errorf("Append: %d, then %d, safe %d", n, l.Next(), l.Safe())
	}
	want(t, "behind the greatest one", e, api.ErrFull)
	files(t, "behind the greatest one", d, "log.1099511627775 log.1099511627776")
}

func TestTextsHandedInAreNotKeptAsTheyAre(t *testing.T) {
	mine := []byte("logrecord")
	d := made(t)
	l, e := wal.Open(d, unsafe.String(&mine[0], 3), 64)
	want(t, "Open", e, api.OK)
	_, e = l.Append(unsafe.String(&mine[3], 6))
	want(t, "Append", e, api.OK)
	segment := []byte(laid(0, "record"))
	got, _ := wal.Parse(unsafe.String(&segment[0], len(segment)), 0)
	copy(mine, "XXXXXXXXX")
	clear(segment)
	holds(t, "as it was", l, "0: record safe 0")
	want(t, "Sync", l.Sync(), api.OK)
	file(t, d, "log.0", laid(0, "record"))
	if !slices.Equal(got, []string{"record"}) {
		t.Errorf("Parse: %q", got)
	}
}

// ---- P13.4 (Sync, Read)

func TestSyncMakesAllRecordsSafe(t *testing.T) {
	d := made(t)
	l := opened(t, d, 64)
	want(t, "without a segment", l.Sync(), api.OK)
	add(t, l, "a", "b")
	holds(t, "ahead of Sync", l, "0: a b safe 0")
	want(t, "Sync", l.Sync(), api.OK)
	holds(t, "Sync", l, "0: a b safe 2")
	if d.Safe("log.0") != len(laid(0, "a", "b")) {
		t.Errorf("%d bytes are safe", d.Safe("log.0"))
	}
	add(t, l, "c", strings.Repeat("x", 60), "d", "e")
	want(t, "Sync", l.Sync(), api.OK)
	want(t, "Crash", d.Crash(nil), api.OK)
	holds(t, "a crash", opened(t, d, 64), "0: a b c "+strings.Repeat("x", 60)+" d e safe 6")
}

func TestSyncWritesTheLastSegmentAlone(t *testing.T) {
	d := made(t)
	l := opened(t, d, 64)
	want(t, "Arm", d.Arm(1), api.OK)
	want(t, "without a segment", l.Sync(), api.OK)
	want(t, "nothing was written", d.Append("x", ""), api.ErrDown)
	want(t, "without a segment, down", l.Sync(), api.OK)
	want(t, "Crash", d.Crash(nil), api.OK)
	add(t, l, strings.Repeat("x", 64), "b")
	want(t, "Arm", d.Arm(2), api.OK)
	want(t, "Sync", l.Sync(), api.OK)
	want(t, "the second write", l.Sync(), api.ErrDown)
}

func TestSyncTellsTheDisksErrors(t *testing.T) {
	d := made(t)
	l := opened(t, d, 64)
	add(t, l, "a")
	want(t, "Arm", d.Arm(1), api.OK)
	want(t, "Sync", l.Sync(), api.ErrDown)
	holds(t, "down at Sync", l, "0: a safe 0")
	want(t, "Sync", l.Sync(), api.ErrDown)

	d = made(t)
	l = opened(t, d, 64)
	add(t, l, "a")
	want(t, "Remove", d.Remove("log.0"), api.OK)
	want(t, "Sync", l.Sync(), api.ErrNone)
	holds(t, "no file", l, "0: a safe 0")
}

func TestReadTellsARecord(t *testing.T) {
	d := made(t)
	put(t, d, "log.5", laid(5, "a", "", "c"))
	l := opened(t, d, 64)
	for i, asked := range map[int]string{5: "a", 6: "", 7: "c"} {
		if got, e := l.Read(i); got != asked || e != api.OK {
			t.Errorf("Read(%d): %q, %d", i, got, e)
		}
	}
	for i, asked := range map[int]api.Errno{4: api.ErrGone, 0: api.ErrGone, -1: api.ErrGone, math.MinInt: api.ErrGone,
		8: api.ErrNone, 9: api.ErrNone, math.MaxInt: api.ErrNone} {
		got, e := l.Read(i)
		if got != "" {
			t.Errorf("Read(%d): %q", i, got)
		}
		want(t, "Read", e, asked)
	}
	l = opened(t, made(t), 64)
	for i, asked := range map[int]api.Errno{-1: api.ErrGone, math.MinInt: api.ErrGone, 0: api.ErrNone, 1: api.ErrNone} {
		_, e := l.Read(i)
		want(t, "Read of none", e, asked)
	}
}

func TestReadTellsRecordsOfADiskThatIsDown(t *testing.T) {
	d := made(t)
	l := opened(t, d, 64)
	add(t, l, "a", "b")
	want(t, "Arm", d.Arm(1), api.OK)
	want(t, "Sync", l.Sync(), api.ErrDown)
	holds(t, "down", l, "0: a b safe 0")
}

// ---- P13.5 (Trim)

// long is a log of four segments, which begin at 0, 2, 4 and 6.
func long(t *testing.T) (*disk.Disk, *wal.Log) {
	t.Helper()
	d := made(t)
	l := opened(t, d, 64)
	for range 4 {
		add(t, l, strings.Repeat("x", 40), strings.Repeat("y", 40))
	}
	files(t, "long", d, "log.0 log.2 log.4 log.6")
	return d, l
}

func TestTrimRemovesTheFirstSegments(t *testing.T) {
	for i, asked := range map[int]string{
		math.MinInt: "log.0 log.2 log.4 log.6", -1: "log.0 log.2 log.4 log.6", 0: "log.0 log.2 log.4 log.6", 1: "log.0 log.2 log.4 log.6",
		2: "log.2 log.4 log.6", 3: "log.2 log.4 log.6", 4: "log.4 log.6", 5: "log.4 log.6",
		6: "log.6", 7: "log.6", 8: "log.6", 9: "log.6", math.MaxInt: "log.6",
	} {
		d, l := long(t)
		want(t, "Trim", l.Trim(i), api.OK)
		files(t, "Trim "+strconv.Itoa(i), d, asked)
		first := number(strings.Fields(asked)[0])
		if l.First() != first || l.Next() != 8 || l.Safe() != 6 {
			t.Errorf("Trim(%d): %d to %d, safe %d", i, l.First(), l.Next(), l.Safe())
		}
		for n := -1; n < 9; n++ {
			asked, e := strings.Repeat("xy"[n&1:n&1+1], 40), api.OK
			if n < first {
				asked, e = "", api.ErrGone
			} else if n == 8 {
				asked, e = "", api.ErrNone
			}
			if got, told := l.Read(n); got != asked || told != e {
				t.Errorf("Trim(%d), Read(%d): %q, %d", i, n, got, told)
			}
		}
		add(t, l, "more")
		want(t, "Sync", l.Sync(), api.OK)
		before := shown(t, l)
		want(t, "Crash", d.Crash(nil), api.OK)
		holds(t, "Trim", opened(t, d, 64), before)
	}
}

func TestTrimOfFewSegmentsLeavesThem(t *testing.T) {
	d := made(t)
	l := opened(t, d, 64)
	want(t, "Trim of none", l.Trim(5), api.OK)
	add(t, l, "a", "b")
	want(t, "Arm", d.Arm(1), api.OK)
	want(t, "Trim of one", l.Trim(2), api.OK)
	holds(t, "Trim of one", l, "0: a b safe 0")
	want(t, "nothing was written", l.Sync(), api.ErrDown)
	want(t, "Trim of one, down", l.Trim(2), api.OK)
}

func TestTrimTellsTheDisksErrors(t *testing.T) {
	for n, asked := range []string{"log.0 log.2 log.4 log.6", "log.2 log.4 log.6", "log.4 log.6"} {
		d, l := long(t)
		want(t, "Arm", d.Arm(n+1), api.OK)
		want(t, "Trim", l.Trim(6), api.ErrDown)
		files(t, "down", d, asked)
		if l.First() != 2*n || l.Next() != 8 {
			t.Errorf("%d to %d, not from %d on", l.First(), l.Next(), 2*n)
		}
		want(t, "Trim", l.Trim(6), api.ErrDown)
		want(t, "Crash", d.Crash([]int{1000, 1000, 1000, 1000}), api.OK)
		if m := opened(t, d, 64); m.First() != 2*n || m.Next() < 6 {
			t.Errorf("behind it %d to %d", m.First(), m.Next())
		}
	}
	d, l := long(t)
	want(t, "Remove", d.Remove("log.2"), api.OK)
	want(t, "Trim", l.Trim(8), api.ErrNone)
	files(t, "one was taken away", d, "log.4 log.6")
	if l.First() != 2 {
		t.Errorf("from %d on", l.First())
	}
}

// ---- P13.6 (looks)

func TestLooks(t *testing.T) {
	d := made(t)
	l := opened(t, d, 64)
	looks := func(first, next, safe int) {
		t.Helper()
		if l.First() != first || l.Next() != next || l.Safe() != safe {
			t.Errorf("%d, %d, %d, not %d, %d, %d", l.First(), l.Next(), l.Safe(), first, next, safe)
		}
	}
	looks(0, 0, 0)
	add(t, l, "a")
	looks(0, 1, 0)
	want(t, "Sync", l.Sync(), api.OK)
	looks(0, 1, 1)
	add(t, l, strings.Repeat("x", 60))
	looks(0, 2, 1)
	add(t, l, "c")
	looks(0, 3, 2)
	want(t, "Trim", l.Trim(2), api.OK)
	looks(2, 3, 2)
	l = opened(t, d, 64)
	looks(2, 3, 3)
	want(t, "Arm", d.Arm(1), api.OK)
	want(t, "Sync", l.Sync(), api.ErrDown)
	looks(2, 3, 3)
}

func TestOfANilLogThereIsNothing(t *testing.T) {
	var l *wal.Log
	n, e := l.Append("a")
	want(t, "Append", e, api.ErrNil)
	_, big := l.Append(strings.Repeat("x", 2000))
	want(t, "Append", big, api.ErrNil)
	s, r := l.Read(0)
	want(t, "Read", r, api.ErrNil)
	_, r = l.Read(-1)
	want(t, "Read", r, api.ErrNil)
	want(t, "Sync", l.Sync(), api.ErrNil)
	want(t, "Trim", l.Trim(0), api.ErrNil)
	if n != 0 || s != "" || l.First() != 0 || l.Next() != 0 || l.Safe() != 0 {
		t.Error("a nil log has something")
	}
}

// ---- P13.7 (kept), P13.8 (again)

func TestTheExample(t *testing.T) {
	d := made(t)
	l := opened(t, d, 64)
	add(t, l, "a", "b")
	want(t, "Sync", l.Sync(), api.OK)
	add(t, l, "c")
	want(t, "Crash", d.Crash([]int{2}), api.OK)
	l = opened(t, d, 64)
	holds(t, "the example", l, "0: a b safe 2")
	file(t, d, "log.0", laid(0, "a", "b"))
}

func TestEveryTornRecordIsGone(t *testing.T) {
	for kept := range 20 {
		d := made(t)
		l := opened(t, d, 64)
		add(t, l, "a", "b")
		want(t, "Sync", l.Sync(), api.OK)
		add(t, l, "c", "d")
		whole := len(laid(2, "c"))
		if kept > 2*whole {
			break
		}
		want(t, "Crash", d.Crash([]int{kept}), api.OK)
		asked := []string{"0: a b safe 2", "0: a b c safe 3", "0: a b c d safe 4"}[kept/whole]
		l = opened(t, d, 64)
		holds(t, "torn", l, asked)
		holds(t, "again", opened(t, d, 64), asked)
		add(t, l, "e")
		want(t, "Sync", l.Sync(), api.OK)
		next, _ := strings.CutSuffix(asked, " safe "+strconv.Itoa(l.Next()-1))
		holds(t, "and on", opened(t, d, 64), next+" e safe "+strconv.Itoa(l.Next()))
	}
}

// A past is what was done with a log: all records that ever came, of those that count, how many are safe, and the one that was on its way when the disk went down.
type past struct {
	first   int
	records []string
	safe    int
	onWay   []string
}

// meets holds a log that is opened behind a crash against the past, which then is what it has.
func (p *past) meets(t *testing.T, l *wal.Log) {
	t.Helper()
	if l.First() != p.first || l.Next() < p.safe || l.Safe() != l.Next() {
		t.Fatalf("%d to %d, safe %d; it was %d to %d, safe %d", l.First(), l.Next(), l.Safe(), p.first, p.first+len(p.records), p.safe)
	}
	all := append(slices.Clone(p.records), p.onWay...)
	if l.Next() > p.first+len(all) {
		t.Fatalf("up to %d, of %d", l.Next(), p.first+len(all))
	}
	for i := l.First(); i < l.Next(); i++ {
		if r, e := l.Read(i); r != all[i-p.first] || e != api.OK {
			t.Fatalf("Read(%d): %q, %d, not %q", i, r, e, all[i-p.first])
		}
	}
	p.records = all[:l.Next()-p.first]
	p.safe, p.onWay = l.Safe(), nil
}

// acts does something with a log.
func (p *past) acts(t *testing.T, r *rand.Rand, l *wal.Log) api.Errno {
	t.Helper()
	switch r.Intn(8) {
	case 0:
		e := l.Sync()
		if e == api.OK {
			p.safe = p.first + len(p.records)
		}
		return e
	case 1:
		i := p.first + r.Intn(len(p.records)+1)
		e := l.Trim(i)
		if l.First() > max(i, p.first) || l.First() < p.first {
			t.Fatalf("Trim(%d): from %d on, it was %d", i, l.First(), p.first)
		}
		p.records = p.records[l.First()-p.first:]
		p.first = l.First()
		return e
	default:
		s := strings.Repeat(string(rune('a'+r.Intn(26))), r.Intn(90))
		n, e := l.Append(s)
		switch e {
		case api.OK:
			if n != p.first+len(p.records) {
				t.Fatalf("Append: %d, not %d", n, p.first+len(p.records))
			}
			p.records = append(p.records, s)
		case api.ErrDown:
			p.onWay = []string{s}
		}
		if l.Safe() < p.safe {
			t.Fatalf("safe %d, it was %d", l.Safe(), p.safe)
		}
		p.safe = l.Safe()
		return e
	}
}

func TestKeptBehindCrashes(t *testing.T) {
	for seed := range int64(300) {
		r := rand.New(rand.NewSource(1307 + seed))
		d, _ := disk.New([]int{300, 2000, api.MaxRoom}[r.Intn(3)])
		most := 64 + r.Intn(200)
		p := &past{}
		for range 30 {
			l, e := wal.Open(d, "log", most)
			want(t, "Open", e, api.OK)
			p.meets(t, l)
			if l, e = wal.Open(d, "log", most); e != api.OK || shown(t, l) == "" {
				t.Fatal("it does not open again")
			}
			p.meets(t, l) // once more the same
			if r.Intn(3) > 0 {
				want(t, "Arm", d.Arm(1+r.Intn(20)), api.OK)
			}
			for range r.Intn(30) {
				if p.acts(t, r, l) == api.ErrDown {
					break
				}
			}
			want(t, "Crash", d.Crash(r.Perm(400)), api.OK)
			crashInOpen(t, r, d, most)
		}
	}
}

// crashInOpen lets the disk go down now and then while a log is opened.
func crashInOpen(t *testing.T, r *rand.Rand, d *disk.Disk, most int) {
	t.Helper()
	for r.Intn(3) == 0 {
		want(t, "Arm", d.Arm(1+r.Intn(2)), api.OK)
		l, e := wal.Open(d, "log", most)
		if (l == nil) != (e == api.ErrDown) {
			t.Fatalf("Open: %v, %d", l, e)
		}
		want(t, "Crash", d.Crash(r.Perm(400)), api.OK)
	}
}
