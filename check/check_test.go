package check_test

import (
	"hash/crc32"
	"math"
	"math/bits"
	"math/rand"
	"slices"
	"strings"
	"testing"
	"unsafe"

	"surmise/api"
	"surmise/check"
)

// known: texts and their sums, as others tell them too.
var known = []struct {
	s    string
	want uint32
}{
	{"", 0},
	{"123456789", 0xe3069283},
	{"a", 0xc1d04330},
	{strings.Repeat("\x00", 32), 0x8a9136aa},
	{strings.Repeat("\xff", 32), 0x62a8ab43},
	{rising(32), 0x46dd794e},
	{falling(32), 0x113fdb5c},
}

func rising(n int) string {
	s := make([]byte, n)
	for i := range s {
		s[i] = byte(i)
	}
	return string(s)
}

func falling(n int) string {
	s := []byte(rising(n))
	slices.Reverse(s)
	return string(s)
}

// chance: bytes without a pattern, the same ones in every run.
func chance(seed int64, n int) string {
	s := make([]byte, n)
	rand.New(rand.NewSource(seed)).Read(s)
	return string(s)
}

// manyTexts: ordinary ones, and ones of which every bit, every byte and every length up to some counts.
func manyTexts() []string {
	all := []string{"some text", "\x80", "\x00\x01", strings.Repeat("x", api.MaxText), chance(1, 70000)}
	for _, c := range known {
		all = append(all, c.s)
	}
	for b := range 256 {
		all = append(all, string([]byte{byte(b)}))
	}
	for n := range 70 {
		all = append(all, chance(int64(n), n))
	}
	return all
}

// words: registers, and sums, of all sorts.
func words() []uint32 {
	l := []uint32{0, math.MaxUint32, 0xe3069283, 0x82f63b78, 0x12345678}
	for bit := range 32 {
		l = append(l, 1<<bit)
	}
	return l
}

// wantedMore: what the document says, bit by bit.
func wantedMore(sum uint32, s string) uint32 {
	register := sum ^ math.MaxUint32
	for _, b := range []byte(s) {
		register ^= uint32(b)
		for range 8 {
			if register%2 == 1 {
				register = register/2 ^ 0x82f63b78
			} else {
				register /= 2
			}
		}
	}
	return register ^ math.MaxUint32
}

// wantedZeros: where a register comes to through n bytes 0.
func wantedZeros(register uint32, n int) uint32 {
	return wantedMore(register^math.MaxUint32, strings.Repeat("\x00", n)) ^ math.MaxUint32
}

// times: the product of two polynomials, by the remainder that the sum is about; the highest bit is the number 1.
func times(a, b uint32) uint32 {
	var product uint32
	for bit := 31; bit >= 0; bit-- {
		if b>>bit&1 == 1 {
			product ^= a
		}
		lowest := a & 1
		a /= 2
		if lowest == 1 {
			a ^= 0x82f63b78
		}
	}
	return product
}

// wantedFar: where a register comes to through n bytes 0, as a product with a power of x: for n that no text has.
func wantedFar(register uint32, n int) uint32 {
	for power := uint32(1 << 23); n > 0; n /= 2 { // x to the 8
		if n%2 == 1 {
			register = times(register, power)
		}
		power = times(power, power)
	}
	return register
}

// ---- P2.1 (Sum, More)

func TestSum(t *testing.T) {
	for _, c := range known {
		if got := check.Sum(c.s); got != c.want {
			t.Errorf("%.40x: %08x, not %08x", c.s, got, c.want)
		}
	}
	castagnoli := crc32.MakeTable(crc32.Castagnoli)
	for _, s := range manyTexts() {
		got := check.Sum(s)
		if want := wantedMore(0, s); got != want {
			t.Errorf("%d bytes %.40x: %08x, not %08x", len(s), s, got, want)
		}
		if want := crc32.Checksum([]byte(s), castagnoli); got != want {
			t.Errorf("%d bytes %.40x: %08x; others say %08x", len(s), s, got, want)
		}
	}
}

func TestMore(t *testing.T) {
	for _, s := range manyTexts() {
		if got, want := check.More(0, s), check.Sum(s); got != want {
			t.Errorf("%.40x behind nothing: %08x, not %08x", s, got, want)
		}
		for cut := 0; cut <= len(s); cut += 1 + len(s)/50 {
			if got, want := check.More(check.Sum(s[:cut]), s[cut:]), check.Sum(s); got != want {
				t.Fatalf("%.40x, cut at %d: %08x, not %08x", s, cut, got, want)
			}
		}
	}
}

// TestMoreOfAnySum: any number is a text's sum.
func TestMoreOfAnySum(t *testing.T) {
	for _, sum := range words() {
		if got := check.More(sum, ""); got != sum {
			t.Errorf("%08x and nothing: %08x", sum, got)
		}
		for _, s := range []string{"\x00", "\xff", "a", "some text", rising(256)} {
			if got, want := check.More(sum, s), wantedMore(sum, s); got != want {
				t.Errorf("%08x and %.40x: %08x, not %08x", sum, s, got, want)
			}
		}
	}
}

// ---- P2.2 (Join)

func TestJoin(t *testing.T) {
	for _, c := range []struct {
		a, b string
		want uint32
	}{
		{"", "", 0}, {"123456789", "", 0xe3069283}, {"", "123456789", 0xe3069283},
		{"1234", "56789", 0xe3069283}, {"12345678", "9", 0xe3069283}, {"1", "23456789", 0xe3069283},
		{strings.Repeat("\x00", 5), strings.Repeat("\x00", 27), 0x8a9136aa},
		{strings.Repeat("\xff", 31), "\xff", 0x62a8ab43},
	} {
		if got, e := check.Join(check.Sum(c.a), check.Sum(c.b), len(c.b)); got != c.want || e != api.OK {
			t.Errorf("%x and %x: %08x, %v; not %08x", c.a, c.b, got, e, c.want)
		}
	}
}

func TestJoinOfAnyNumbers(t *testing.T) {
	for _, a := range words() {
		for _, b := range []uint32{0, 1, 0x80000000, 0xe3069283, math.MaxUint32} {
			for _, n := range []int{0, 1, 2, 3, 4, 5, 7, 8, 9, 31, 32, 33, 255, 256, 1000} {
				got, e := check.Join(a, b, n)
				if want := wantedZeros(a, n) ^ b; got != want || e != api.OK {
					t.Fatalf("%08x, %08x, %d: %08x, %v; not %08x", a, b, n, got, e, want)
				}
			}
		}
	}
}

// far: lengths that no text has, around those at which the number of their bits leaves an int, too.
func far() []int {
	l := []int{api.MaxFile, math.MaxInt32, math.MaxInt32 - 1, 123456789012345678, math.MaxInt, math.MaxInt - 1}
	for bit := 16; bit < 63; bit++ {
		p := 1 << bit
		l = append(l, p-1, p, p+1)
	}
	return l
}

func TestJoinFar(t *testing.T) {
	for _, n := range []int{0, 1, 2, 31, 1000} {
		if wantedFar(0xe3069283, n) != wantedZeros(0xe3069283, n) {
			t.Fatalf("the test's own ways differ at %d", n)
		}
	}
	for _, n := range far() {
		for _, a := range words() {
			got, e := check.Join(a, 0x12345678, n)
			if want := wantedFar(a, n) ^ 0x12345678; got != want || e != api.OK {
				t.Fatalf("%08x through %d: %08x, %v; not %08x", a, n, got, e, want)
			}
		}
	}
}

// TestJoinComesRound: a register is back where it was behind 2^31 - 1 bytes 0, so that 2^63 - 1 of them are as good as one.
func TestJoinComesRound(t *testing.T) {
	for _, a := range words() {
		if got, e := check.Join(a, 0, math.MaxInt32); got != a || e != api.OK {
			t.Errorf("%08x: %08x, %v", a, got, e)
		}
		if got, e := check.Join(a, 0, math.MaxInt); got != wantedZeros(a, 1) || e != api.OK {
			t.Errorf("%08x: %08x, %v; not %08x", a, got, e, wantedZeros(a, 1))
		}
	}
}

func TestJoinBelowNothing(t *testing.T) {
	for _, n := range []int{-1, -2, -8, -256, math.MinInt32, math.MinInt + 1, math.MinInt} {
		for _, sum := range words() {
			if got, e := check.Join(sum, sum, n); got != 0 || e != api.ErrArg {
				t.Errorf("%08x, %d: %08x, %v", sum, n, got, e)
			}
			if got, e := check.Join(sum, 0, n); got != 0 || e != api.ErrArg {
				t.Errorf("%08x and 0, %d: %08x, %v", sum, n, got, e)
			}
		}
	}
}

// ---- P2.3 (Seal, Open)

func TestSeal(t *testing.T) {
	for _, c := range []struct{ s, tail string }{
		{"", "\x00\x00\x00\x00"}, {"123456789", "\x83\x92\x06\xe3"}, {"a", "\x30\x43\xd0\xc1"},
		{strings.Repeat("\x00", 32), "\xaa\x36\x91\x8a"},
	} {
		if got := check.Seal(c.s); got != c.s+c.tail {
			t.Errorf("%x: %x", c.s, got)
		}
	}
	for _, s := range manyTexts() {
		sum := wantedMore(0, s)
		want := s + string([]byte{byte(sum), byte(sum >> 8), byte(sum >> 16), byte(sum >> 24)})
		if got := check.Seal(s); got != want {
			t.Errorf("%.40x: sealed with %x, not %x", s, got[min(len(got), len(s)):], want[len(s):])
		}
	}
}

func TestOpen(t *testing.T) {
	for _, c := range []struct {
		s, want string
		e       api.Errno
	}{
		{"\x00\x00\x00\x00", "", api.OK}, {"123456789\x83\x92\x06\xe3", "123456789", api.OK},
		{"a\x30\x43\xd0\xc1", "a", api.OK},

		{"", "", api.ErrShort}, {"\x00", "", api.ErrShort}, {"ab", "", api.ErrShort},
		{"\x00\x00\x00", "", api.ErrShort}, {"\x83\x92\x06", "", api.ErrShort},

		{"abcd", "", api.ErrSum}, {"\xff\xff\xff\xff", "", api.ErrSum}, {"\x00\x00\x00\x01", "", api.ErrSum},
		{"\x00\x00\x00\x00\x00", "", api.ErrSum}, {"123456789", "", api.ErrSum},
		// The highest byte first; a sum without its turn; nothing ahead of the sum, and something behind it.
		{"123456789\xe3\x06\x92\x83", "", api.ErrSum}, {"123456789\x7c\x6d\xf9\x1c", "", api.ErrSum},
		{"\x83\x92\x06\xe3", "", api.ErrSum}, {"123456789\x83\x92\x06\xe3\x00", "", api.ErrSum},
		{"123456789\x83\x92\x06", "", api.ErrSum}, {"23456789\x83\x92\x06\xe3", "", api.ErrSum},
		{strings.Repeat("\x00", 36), "", api.ErrSum},
	} {
		if got, e := check.Open(c.s); got != c.want || e != c.e {
			t.Errorf("%x: %x, %v; not %x, %v", c.s, got, e, c.want, c.e)
		}
	}
}

func TestSealedIsOpened(t *testing.T) {
	for _, s := range manyTexts() {
		once := check.Seal(s)
		if got, e := check.Open(once); got != s || e != api.OK {
			t.Errorf("%.40x: %.40x, %v", s, got, e)
		}
		// What is sealed is a text like others.
		if got, e := check.Open(check.Seal(once)); got != once || e != api.OK {
			t.Errorf("%.40x, sealed twice: %.40x, %v", s, got, e)
		}
	}
}

func TestSealedAndCutIsNotOpened(t *testing.T) {
	sealed := check.Seal("some text")
	for cut := range len(sealed) {
		want := api.ErrSum
		if cut < 4 {
			want = api.ErrShort
		}
		if got, e := check.Open(sealed[:cut]); got != "" || e != want {
			t.Errorf("%d bytes: %x, %v; not %v", cut, got, e, want)
		}
	}
}

// ---- P2.4 (joined)

// joined: the sum of parts one behind the other, which are joined from the first one on.
func joined(t *testing.T, parts []string) uint32 {
	t.Helper()
	sum := uint32(0)
	for _, part := range parts {
		var e api.Errno
		if sum, e = check.Join(sum, check.Sum(part), len(part)); e != api.OK {
			t.Fatalf("%v", e)
		}
	}
	return sum
}

// joinedFromBehind: the same sum, joined from the last one on.
func joinedFromBehind(t *testing.T, parts []string) uint32 {
	t.Helper()
	sum, all := uint32(0), 0
	for _, part := range slices.Backward(parts) {
		var e api.Errno
		if sum, e = check.Join(check.Sum(part), sum, all); e != api.OK {
			t.Fatalf("%v", e)
		}
		all += len(part)
	}
	return sum
}

// parted: a text, cut at these places.
func parted(s string, cuts ...int) []string {
	var parts []string
	from := 0
	for _, cut := range append(cuts, len(s)) {
		parts = append(parts, s[from:cut])
		from = cut
	}
	return parts
}

func checkJoined(t *testing.T, s string, cuts ...int) {
	t.Helper()
	parts, want := parted(s, cuts...), check.Sum(s)
	if got := joined(t, parts); got != want {
		t.Errorf("%.40x, cut at %v: %08x, not %08x", s, cuts, got, want)
	}
	if got := joinedFromBehind(t, parts); got != want {
		t.Errorf("%.40x, cut at %v, from behind: %08x, not %08x", s, cuts, got, want)
	}
}

func TestJoinedOfAnyParts(t *testing.T) {
	for _, s := range []string{"", "a", "123456789", strings.Repeat("\x00", 12), strings.Repeat("\xff", 13), chance(3, 20)} {
		for first := 0; first <= len(s); first++ {
			checkJoined(t, s, first)
			for second := first; second <= len(s); second++ {
				checkJoined(t, s, first, second)
				for third := second; third <= len(s); third++ {
					checkJoined(t, s, first, second, third)
				}
			}
		}
	}
}

func TestJoinedOfLongParts(t *testing.T) {
	s := chance(4, 70000)
	for _, cut := range []int{0, 1, 255, 256, 257, 4095, 4096, 35000, 65535, 65536, 69999, 70000} {
		checkJoined(t, s, cut)
	}
	every := make([]int, len(s[:3000]))
	for i := range every {
		every[i] = i
	}
	checkJoined(t, s[:3000], every...)
}

// ---- P2.5 (bursts)

// turned: a text of which those bits are turned that the burst has, from the place of its lowest one on.
func turned(s string, at int, burst uint32) string {
	changed := []byte(s)
	for i := range 32 {
		if burst>>i&1 == 1 {
			changed[(at+i)/8] ^= 1 << ((at + i) % 8)
		}
	}
	return string(changed)
}

// bursts: those of the lowest bit and so many more places, all of them where they are few, else some, with the one bit, with all, and with the two ends alone among them.
func bursts(width int) []uint32 {
	ends := uint32(1)<<(width-1) | 1
	inner := uint32(1<<width-1) & ^ends
	l := []uint32{ends, ends | inner}
	if width <= 10 {
		for b := uint32(0); b < 1<<width; b++ {
			l = append(l, b&inner|ends)
		}
		return l
	}
	source := rand.New(rand.NewSource(int64(width)))
	for range 40 {
		l = append(l, source.Uint32()&inner|ends)
	}
	return l
}

func TestBurstsAreNotOpened(t *testing.T) {
	for _, s := range []string{"", "a", "\x00\x00\x00\x00\x00", "123456789"} {
		sealed := check.Seal(s)
		for width := 1; width <= 32; width++ {
			for _, burst := range bursts(width) {
				for at := 0; at+width <= 8*len(sealed); at++ {
					if got, e := check.Open(turned(sealed, at, burst)); got != "" || e != api.ErrSum {
						t.Fatalf("%x with %b turned from bit %d on: %x, %v", sealed, burst, at, got, e)
					}
				}
			}
		}
	}
}

func TestBurstsOfLongTextsAreNotOpened(t *testing.T) {
	sealed := check.Seal(chance(5, 1500))
	// The last two are the polynomial's 33 bits without the one, and the other, of its ends.
	all := []uint32{1, 3, 0x80000001, math.MaxUint32, 0x05ec76f1, 0x82f63b78}
	for at := 0; at+32 <= 8*len(sealed); at += 97 {
		for _, burst := range all {
			if got, e := check.Open(turned(sealed, at, burst)); got != "" || e != api.ErrSum {
				t.Fatalf("%x turned from bit %d on: %d bytes, %v", burst, at, len(got), e)
			}
		}
	}
}

// TestNoBurstIsLeft: what one turned bit makes of the sum against the bytes that tell it is, of several bits, xored. So no burst comes to nothing if each 32 bits side by side are independent.
func TestNoBurstIsLeft(t *testing.T) {
	s := chance(6, 300)
	sealed, sum := check.Seal(s), check.Sum(s)
	changes := make([]uint32, 8*len(sealed))
	for at := range changes {
		other := turned(sealed, at, 1)
		laid := uint32(other[len(s)]) | uint32(other[len(s)+1])<<8 | uint32(other[len(s)+2])<<16 | uint32(other[len(s)+3])<<24
		changes[at] = check.Sum(other[:len(s)]) ^ laid
		if at < 8*len(s) && laid != sum {
			t.Fatalf("bit %d: the sum is not the last 4 bytes", at)
		}
	}
	for at := 0; at+32 <= len(changes); at++ {
		if !independent(changes[at : at+32]) {
			t.Fatalf("some bits within 32 from bit %d on come to nothing", at)
		}
	}
}

// independent: no xor of some of these is 0.
func independent(l []uint32) bool {
	var byHighest [33]uint32
	for _, x := range l {
		for x != 0 && byHighest[bits.Len32(x)] != 0 {
			x ^= byHighest[bits.Len32(x)]
		}
		if x == 0 {
			return false
		}
		byHighest[bits.Len32(x)] = x
	}
	return true
}

// ---- R3: what is told is new.

func TestAnswersAreNew(t *testing.T) {
	within := func(part, s string) bool {
		p, start := uintptr(unsafe.Pointer(unsafe.StringData(part))), uintptr(unsafe.Pointer(unsafe.StringData(s)))
		return p >= start && p < start+uintptr(len(s))
	}
	text := strings.Repeat("some text ", 9)
	sealed := check.Seal(text)
	if within(sealed, text) {
		t.Error("Seal hands out what came in")
	}
	if opened, e := check.Open(sealed); opened != text || e != api.OK || within(opened, sealed) {
		t.Error("Open hands out a piece of what came in")
	}
}
