package varint_test

import (
	"math"
	"math/big"
	"slices"
	"strings"
	"testing"
	"unsafe"

	"surmise/api"
	"surmise/varint"
)

// edges: numbers at which the count of bytes, or a sign, or a limit changes.
func edges() []int {
	l := []int{0, 1, -1, 300, api.MaxText, api.MaxText + 1, api.MaxList, api.MaxList + 1, math.MaxInt, math.MinInt, math.MinInt + 1}
	for bit := 0; bit < 63; bit++ {
		p := 1 << bit
		l = append(l, p-1, p, p+1, -p+1, -p, -p-1)
	}
	return l
}

func repeat[T any](item T, n int) []T {
	return slices.Repeat([]T{item}, n)
}

// folded: 2 n, or - 2 n - 1, with numbers of any size.
func folded(n int) *big.Int {
	f := new(big.Int).Lsh(big.NewInt(int64(n)), 1)
	if n < 0 {
		f.Neg(f).Sub(f, big.NewInt(1))
	}
	return f
}

// sum: what digits of the base 128 come to, the lowest first, without the bit of those behind which another one stands.
func sum(laid string) *big.Int {
	s := new(big.Int)
	for i := len(laid) - 1; i >= 0; i-- {
		s.Lsh(s, 7).Add(s, big.NewInt(int64(laid[i]&127)))
	}
	return s
}

// texts: all of at most so many bytes of these.
func texts(alphabet string, most int) []string {
	all, longest := []string{""}, []string{""}
	for range most {
		var next []string
		for _, s := range longest {
			for i := range len(alphabet) {
				next = append(next, s+alphabet[i:i+1])
			}
		}
		all, longest = append(all, next...), next
	}
	return all
}

// ---- P1.1 (laid)

func TestNumberLaid(t *testing.T) {
	for _, c := range []struct {
		n    int
		want string
	}{
		{0, "\x00"}, {-1, "\x01"}, {1, "\x02"}, {-2, "\x03"}, {2, "\x04"},
		{63, "\x7e"}, {-64, "\x7f"}, {64, "\x80\x01"}, {-65, "\x81\x01"}, {300, "\xd8\x04"},
		{8191, "\xfe\x7f"}, {-8192, "\xff\x7f"}, {8192, "\x80\x80\x01"},
		{math.MaxInt, "\xfe\xff\xff\xff\xff\xff\xff\xff\xff\x01"},
		{math.MinInt, "\xff\xff\xff\xff\xff\xff\xff\xff\xff\x01"},
		{1<<62 - 1, "\xfe\xff\xff\xff\xff\xff\xff\xff\x7f"},
		{1 << 62, "\x80\x80\x80\x80\x80\x80\x80\x80\x80\x01"},
	} {
		if got := varint.Number(c.n); got != c.want {
			t.Errorf("%d: %x, not %x", c.n, got, c.want)
		}
	}
}

func TestNumberIsItsDigits(t *testing.T) {
	for _, n := range edges() {
		laid := varint.Number(n)
		if len(laid) < 1 || len(laid) > 10 {
			t.Fatalf("%d: %d bytes", n, len(laid))
		}
		last := len(laid) - 1
		for i := range last {
			if laid[i] < 128 {
				t.Errorf("%d: %x: byte %d says that it is the last one", n, laid, i)
			}
		}
		if laid[last] >= 128 || laid[last] == 0 && last > 0 {
			t.Errorf("%d: %x: no such last byte", n, laid)
		}
		if sum(laid).Cmp(folded(n)) != 0 {
			t.Errorf("%d: %x", n, laid)
		}
	}
}

func TestTextLaid(t *testing.T) {
	for _, c := range []struct{ s, head string }{
		{"", "\x00"}, {"a", "\x02"}, {"abc", "\x06"}, {"\x00\xff\x80", "\x06"}, {"ä", "\x04"},
		{strings.Repeat("x", 63), "\x7e"}, {strings.Repeat("x", 64), "\x80\x01"},
		{strings.Repeat("y", 4096), "\x80\x40"},
	} {
		if got, e := varint.Text(c.s); got != c.head+c.s || e != api.OK {
			t.Errorf("%d bytes: %x, %v", len(c.s), got, e)
		}
	}
	// Bytes are counted, not characters.
	for _, s := range []string{strings.Repeat("x", 4097), strings.Repeat("x", 70000), strings.Repeat("ä", 2049)} {
		if got, e := varint.Text(s); got != "" || e != api.ErrBig {
			t.Errorf("%d bytes: %d, %v", len(s), len(got), e)
		}
	}
}

func TestNumbersLaid(t *testing.T) {
	for _, c := range []struct {
		l    []int
		want string
	}{
		{nil, "\x00"}, {[]int{}, "\x00"}, {[]int{0}, "\x02\x00"},
		{[]int{64, -1, 300}, "\x06\x80\x01\x01\xd8\x04"},
		{repeat(-2, 256), "\x80\x04" + strings.Repeat("\x03", 256)},
	} {
		if got, e := varint.Numbers(c.l); got != c.want || e != api.OK {
			t.Errorf("%v: %x, %v", c.l, got, e)
		}
	}
	for _, n := range []int{257, 1000} {
		if got, e := varint.Numbers(repeat(1, n)); got != "" || e != api.ErrBig {
			t.Errorf("%d items: %x, %v", n, got, e)
		}
	}
}

func TestTextsLaid(t *testing.T) {
	full, over := strings.Repeat("x", 4096), strings.Repeat("x", 4097)
	for _, c := range []struct {
		l    []string
		want string
	}{
		{nil, "\x00"}, {[]string{}, "\x00"}, {[]string{""}, "\x02\x00"},
		{[]string{"a", "", "bc"}, "\x06\x02a\x00\x04bc"},
		{repeat("z", 256), "\x80\x04" + strings.Repeat("\x02z", 256)},
		{repeat(full, 256), "\x80\x04" + strings.Repeat("\x80\x40"+full, 256)},
	} {
		if got, e := varint.Texts(c.l); got != c.want || e != api.OK {
			t.Errorf("%d items: %d bytes, %v", len(c.l), len(got), e)
		}
	}
	for i, l := range [][]string{repeat("", 257), repeat(over, 257), {over}, {"a", over}, {over, "a"}, {strings.Repeat("ä", 2049)}, append(repeat("", 255), over)} {
		if got, e := varint.Texts(l); got != "" || e != api.ErrBig {
			t.Errorf("case %d: %d bytes, %v", i, len(got), e)
		}
	}
}

// ---- P1.2 (ReadNumber)

func TestReadNumber(t *testing.T) {
	nine := strings.Repeat("\x80", 9)
	for _, c := range []struct {
		s       string
		at      int
		n, next int
		e       api.Errno
	}{
		{"\x00", 0, 0, 1, api.OK}, {"a\x01", 1, -1, 2, api.OK}, {"\xd8\x04\xff", 0, 300, 2, api.OK},
		{"\x80\x01", 0, 64, 2, api.OK}, {"\x80\x01", 1, -1, 2, api.OK}, {"\x00\x00", 0, 0, 1, api.OK},
		{"\x80\x80\x01", 0, 8192, 3, api.OK}, {nine + "\x01", 0, 1 << 62, 10, api.OK},
		{"\xff\xff\xff\xff\xff\xff\xff\xff\xff\x01", 0, math.MinInt, 10, api.OK},
		{"\xfe\xff\xff\xff\xff\xff\xff\xff\xff\x01", 0, math.MaxInt, 10, api.OK},

		{"", -1, 0, 0, api.ErrRange}, {"", 1, 0, 0, api.ErrRange}, {"\x02", -1, 0, 0, api.ErrRange},
		{"\x02", 2, 0, 0, api.ErrRange}, {"\x80\x00", 3, 0, 0, api.ErrRange},
		{"\x02", math.MinInt, 0, 0, api.ErrRange}, {"\x02", math.MaxInt, 0, 0, api.ErrRange},

		{"", 0, 0, 0, api.ErrShort}, {"\x02", 1, 0, 0, api.ErrShort}, {"\x80", 0, 0, 0, api.ErrShort},
		{"\x00\x80", 1, 0, 0, api.ErrShort}, {"\x80\x80", 0, 0, 0, api.ErrShort}, {nine, 0, 0, 0, api.ErrShort},
		{strings.Repeat("\xff", 9), 0, 0, 0, api.ErrShort},

		{"\x80\x00", 0, 0, 0, api.ErrForm}, {"\xff\x00", 0, 0, 0, api.ErrForm}, {"\x81\x80\x00", 0, 0, 0, api.ErrForm},
		{nine + "\x00", 0, 0, 0, api.ErrForm}, {nine + "\x02", 0, 0, 0, api.ErrForm}, {nine + "\x7f", 0, 0, 0, api.ErrForm},
		{"a\x80\x00", 1, 0, 0, api.ErrForm},
		// The tenth byte tells ahead of the end that is missing.
		{nine + "\x80", 0, 0, 0, api.ErrForm}, {nine + "\x81", 0, 0, 0, api.ErrForm}, {nine + "\xff", 0, 0, 0, api.ErrForm},
		{nine + "\x80\x01", 0, 0, 0, api.ErrForm}, {strings.Repeat("\x80", 5000), 0, 0, 0, api.ErrForm},
	} {
		if n, next, e := varint.ReadNumber(c.s, c.at); n != c.n || next != c.next || e != c.e {
			t.Errorf("%.20x at %d: %d, %d, %v; not %d, %d, %v", c.s, c.at, n, next, e, c.n, c.next, c.e)
		}
	}
}

// wanted: what the document says of a number at a place, with numbers of any size.
func wanted(s string, at int) (*big.Int, int, api.Errno) {
	if at < 0 || at > len(s) {
		return nil, 0, api.ErrRange
	}
	length := 1 + strings.IndexFunc(s[at:], func(r rune) bool { return r < 128 })
	if len(s)-at >= 10 && (length == 0 || length >= 10) && s[at+9] > 1 {
		return nil, 0, api.ErrForm
	}
	if length == 0 {
		return nil, 0, api.ErrShort
	}
	if length > 1 && s[at+length-1] == 0 {
		return nil, 0, api.ErrForm
	}
	return sum(s[at : at+length]), at + length, api.OK
}

func TestReadNumberOfAnyBytes(t *testing.T) {
	for _, head := range []string{"", "\x80\x80\x80\x80\x80\x80", "\xff\xff\xff\xff\xff\xff\xff"} {
		for _, tail := range texts("\x00\x01\x02\x7f\x80\x81\xff", 4) {
			s := head + tail
			for at := -1; at <= len(s)+1; at++ {
				n, next, e := varint.ReadNumber(s, at)
				number, place, errno := wanted(s, at)
				if next != place || e != errno || e == api.OK && folded(n).Cmp(number) != 0 || e != api.OK && n != 0 {
					t.Fatalf("%x at %d: %d, %d, %v; not %v, %d, %v", s, at, n, next, e, number, place, errno)
				}
			}
		}
	}
}

// ---- P1.3 (ReadText)

func TestReadText(t *testing.T) {
	full := strings.Repeat("x", 4096)
	for _, c := range []struct {
		s    string
		at   int
		text string
		next int
		e    api.Errno
	}{
		{"\x00", 0, "", 1, api.OK}, {"\x02a", 0, "a", 2, api.OK}, {"..\x04bc..", 2, "bc", 5, api.OK},
		{"\x06\x00\xff\x80", 0, "\x00\xff\x80", 4, api.OK}, {"\x80\x40" + full, 0, full, 4098, api.OK},
		{"\x02a\x00", 2, "", 3, api.OK}, {"\x80\x01" + full, 0, full[:64], 66, api.OK},

		{"\x00", -1, "", 0, api.ErrRange}, {"\x00", 2, "", 0, api.ErrRange}, {"\x00", math.MaxInt, "", 0, api.ErrRange},
		{"", 0, "", 0, api.ErrShort}, {"\x00", 1, "", 0, api.ErrShort}, {"\x80", 0, "", 0, api.ErrShort},
		{"\x82\x00a", 0, "", 0, api.ErrForm}, {strings.Repeat("\x80", 9) + "\x02", 0, "", 0, api.ErrForm},

		{"\x01", 0, "", 0, api.ErrForm}, {"\x03abc", 0, "", 0, api.ErrForm}, {"\x83\x40" + full, 0, "", 0, api.ErrForm},
		{varint.Number(math.MinInt), 0, "", 0, api.ErrForm},

		{"\x82\x40" + full + "x", 0, "", 0, api.ErrBig}, {"\x82\x40", 0, "", 0, api.ErrBig},
		{varint.Number(math.MaxInt), 0, "", 0, api.ErrBig},

		{"\x02", 0, "", 0, api.ErrShort}, {"\x06ab", 0, "", 0, api.ErrShort}, {"\x80\x40" + full[1:], 0, "", 0, api.ErrShort},
		{"ab\x04c", 2, "", 0, api.ErrShort},
	} {
		if text, next, e := varint.ReadText(c.s, c.at); text != c.text || next != c.next || e != c.e {
			t.Errorf("%.20x at %d: %.20q, %d, %v; not %.20q, %d, %v", c.s, c.at, text, next, e, c.text, c.next, c.e)
		}
	}
}

// ---- P1.4 (ReadNumbers, ReadTexts)

// badCounts: a list's bytes whose count is at fault, and that fault.
func badCounts() []struct {
	s  string
	at int
	e  api.Errno
} {
	long := strings.Repeat("\x00", 300)
	return []struct {
		s  string
		at int
		e  api.Errno
	}{
		{"\x00", -1, api.ErrRange}, {"\x00", 2, api.ErrRange}, {"", 1, api.ErrRange}, {"\x00", math.MinInt, api.ErrRange},
		{"", 0, api.ErrShort}, {"\x00", 1, api.ErrShort}, {"\x80", 0, api.ErrShort},
		{"\x80\x00", 0, api.ErrForm}, {strings.Repeat("\xff", 10), 0, api.ErrForm},
		{"\x01", 0, api.ErrForm}, {"\x03" + long, 0, api.ErrForm}, {"\x83\x04" + long, 0, api.ErrForm},
		{varint.Number(math.MinInt) + long, 0, api.ErrForm},
		{"\x82\x04" + long, 0, api.ErrBig}, {"\x82\x04", 0, api.ErrBig}, {varint.Number(math.MaxInt), 0, api.ErrBig},
	}
}

func TestReadNumbers(t *testing.T) {
	for _, c := range []struct {
		s    string
		at   int
		l    []int
		next int
		e    api.Errno
	}{
		{"\x00", 0, nil, 1, api.OK}, {"\x02\x00", 0, []int{0}, 2, api.OK},
		{".\x06\x80\x01\x01\xd8\x04.", 1, []int{64, -1, 300}, 7, api.OK},
		{"\x80\x04" + strings.Repeat("\x03", 256), 0, repeat(-2, 256), 258, api.OK},

		{"\x02", 0, nil, 0, api.ErrShort}, {"\x04\x02", 0, nil, 0, api.ErrShort}, {"\x04\x02\x80", 0, nil, 0, api.ErrShort},
		{"\x80\x04" + strings.Repeat("\x03", 255), 0, nil, 0, api.ErrShort},
		{"\x04\x02\x80\x00", 0, nil, 0, api.ErrForm}, {"\x06\x02\x80\x00", 0, nil, 0, api.ErrForm},
		{"\x06\x02" + strings.Repeat("\x80", 10), 0, nil, 0, api.ErrForm},
	} {
		if l, next, e := varint.ReadNumbers(c.s, c.at); !slices.Equal(l, c.l) || next != c.next || e != c.e {
			t.Errorf("%.20x at %d: %v, %d, %v; not %v, %d, %v", c.s, c.at, l, next, e, c.l, c.next, c.e)
		}
	}
	for _, c := range badCounts() {
		if l, next, e := varint.ReadNumbers(c.s, c.at); len(l) != 0 || next != 0 || e != c.e {
			t.Errorf("%.20x at %d: %v, %d, %v; not %v", c.s, c.at, l, next, e, c.e)
		}
	}
}

func TestReadTexts(t *testing.T) {
	full := strings.Repeat("x", 4096)
	for _, c := range []struct {
		s    string
		at   int
		l    []string
		next int
		e    api.Errno
	}{
		{"\x00", 0, nil, 1, api.OK}, {"\x02\x00", 0, []string{""}, 2, api.OK},
		{".\x06\x02a\x00\x04bc.", 1, []string{"a", "", "bc"}, 8, api.OK},
		{"\x80\x04" + strings.Repeat("\x02z", 256), 0, repeat("z", 256), 514, api.OK},
		{"\x04\x80\x40" + full + "\x00", 0, []string{full, ""}, 4100, api.OK},

		{"\x02", 0, nil, 0, api.ErrShort}, {"\x04\x02a", 0, nil, 0, api.ErrShort}, {"\x04\x02a\x02", 0, nil, 0, api.ErrShort},
		{"\x80\x04" + strings.Repeat("\x00", 255), 0, nil, 0, api.ErrShort},
		{"\x04\x02a\x01", 0, nil, 0, api.ErrForm}, {"\x04\x00\x80\x00", 0, nil, 0, api.ErrForm},
		{"\x04\x00\x82\x40", 0, nil, 0, api.ErrBig},
		// Of several faults the first item's is told.
		{"\x06\x01\x82\x40", 0, nil, 0, api.ErrForm}, {"\x06\x82\x40\x01", 0, nil, 0, api.ErrBig},
	} {
		if l, next, e := varint.ReadTexts(c.s, c.at); !slices.Equal(l, c.l) || next != c.next || e != c.e {
			t.Errorf("%.20x at %d: %.20q, %d, %v; not %.20q, %d, %v", c.s, c.at, l, next, e, c.l, c.next, c.e)
		}
	}
	for _, c := range badCounts() {
		if l, next, e := varint.ReadTexts(c.s, c.at); len(l) != 0 || next != 0 || e != c.e {
			t.Errorf("%.20x at %d: %q, %d, %v; not %v", c.s, c.at, l, next, e, c.e)
		}
	}
}

// ---- P1.5 (there and back)

// thereAndBack: what was laid is read as it was, whatever stands around it.
func thereAndBack[T any](t *testing.T, laid string, item T, read func(string, int) (T, int, api.Errno), same func(a, b T) bool) {
	t.Helper()
	for _, ahead := range []string{"", "\x00", "\x80", "\xff\xff", "text"} {
		for _, behind := range []string{"", "\x00", "\x80", "\xff\xff", "text"} {
			got, next, e := read(ahead+laid+behind, len(ahead))
			if !same(got, item) || next != len(ahead)+len(laid) || e != api.OK {
				t.Fatalf("%.20x behind %x, ahead of %x: %v, %d, %v", laid, ahead, behind, got, next, e)
			}
		}
	}
}

func TestThereAndBack(t *testing.T) {
	equal := func(a, b int) bool { return a == b }
	for n := -20000; n <= 20000; n++ {
		thereAndBack(t, varint.Number(n), n, varint.ReadNumber, equal)
	}
	for _, n := range edges() {
		thereAndBack(t, varint.Number(n), n, varint.ReadNumber, equal)
	}
	all := texts("\x00a\x80\xff", 3)
	for _, s := range append(all, strings.Repeat("\x80", 63), strings.Repeat("\xff", 64), strings.Repeat("\x00", 4096)) {
		laid, _ := varint.Text(s)
		thereAndBack(t, laid, s, varint.ReadText, func(a, b string) bool { return a == b })
	}
	for _, l := range [][]int{nil, {0}, {-1, 1}, edges()[:256], edges()[100:300], repeat(math.MinInt, 256)} {
		laid, _ := varint.Numbers(l)
		thereAndBack(t, laid, l, varint.ReadNumbers, slices.Equal[[]int])
	}
	for _, l := range [][]string{nil, {""}, {"", ""}, {"a", "", "bc"}, all, repeat("\x80", 256)} {
		laid, _ := varint.Texts(l)
		thereAndBack(t, laid, l, varint.ReadTexts, slices.Equal[[]string])
	}
}

// TestReadIsLaidAsItWas: whatever can be read is laid as the very bytes.
func TestReadIsLaidAsItWas(t *testing.T) {
	read := 0
	check := func(kind, s string, at, next int, e, again api.Errno, laid string) {
		if e != api.OK {
			return
		}
		read++
		if again != api.OK || laid != s[at:next] {
			t.Fatalf("%s: %x at %d up to %d: laid as %x, %v", kind, s, at, next, laid, again)
		}
	}
	for _, s := range texts("\x00\x01\x02\x04\x7f\x80\x82\xff", 5) {
		for at := range len(s) {
			n, next, e := varint.ReadNumber(s, at)
			check("number", s, at, next, e, api.OK, varint.Number(n))
			text, next, e := varint.ReadText(s, at)
			laid, again := varint.Text(text)
			check("text", s, at, next, e, again, laid)
			numbers, next, e := varint.ReadNumbers(s, at)
			laid, again = varint.Numbers(numbers)
			check("numbers", s, at, next, e, again, laid)
			list, next, e := varint.ReadTexts(s, at)
			laid, again = varint.Texts(list)
			check("texts", s, at, next, e, again, laid)
		}
	}
	if read < 10000 {
		t.Errorf("only %d could be read", read)
	}
}

// ---- P1.6 (short)

func TestLessIsNotLonger(t *testing.T) {
	l := edges()
	for n := range 40000 {
		l = append(l, n)
	}
	slices.Sort(l)
	longest := 0
	for _, n := range l {
		if n < 0 {
			continue
		}
		length := len(varint.Number(n))
		if length < longest {
			t.Fatalf("%d has %d bytes, a less one %d", n, length, longest)
		}
		longest = length
	}
	for k := 1; k <= 9; k++ {
		most := 1<<(7*k-1) - 1
		if len(varint.Number(most)) != k || len(varint.Number(-most-1)) != k || len(varint.Number(most+1)) != k+1 {
			t.Errorf("numbers up to %d do not have up to %d bytes", most, k)
		}
	}
}

// ---- R3: what comes in is left as it is, what is told is new.

func TestListsHandedInStay(t *testing.T) {
	numbers := []int{1, 2, 3, 4}
	varint.Numbers(numbers[:2])
	if !slices.Equal(numbers, []int{1, 2, 3, 4}) {
		t.Error(numbers)
	}
	list := []string{"a", "b", "c", "d"}
	varint.Texts(list[:2])
	if !slices.Equal(list, []string{"a", "b", "c", "d"}) {
		t.Error(list)
	}
}

func TestAnswersAreNew(t *testing.T) {
	within := func(part, s string) bool {
		p, start := uintptr(unsafe.Pointer(unsafe.StringData(part))), uintptr(unsafe.Pointer(unsafe.StringData(s)))
		return p >= start && p < start+uintptr(len(s))
	}
	text := strings.Repeat("some text ", 9)
	laid, _ := varint.Texts([]string{text, text})
	one, _, e := varint.ReadText(laid, 1)
	if e != api.OK || one != text || within(one, laid) {
		t.Error("ReadText hands out a piece of what came in")
	}
	all, _, e := varint.ReadTexts(laid, 0)
	if e != api.OK || len(all) != 2 || within(all[0], laid) || within(all[1], laid) {
		t.Error("ReadTexts hands out pieces of what came in")
	}
	first, _, _ := varint.ReadNumbers("\x04\x02\x04", 0)
	second, _, _ := varint.ReadNumbers("\x04\x02\x04", 0)
	first[0] = 9
	if second[0] != 1 {
		t.Error("two answers share their numbers")
	}
}
