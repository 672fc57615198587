package pattern_test

import (
	"math/rand"
	"regexp"
	"slices"
	"strings"
	"testing"

	"surmise/api"
	"surmise/pattern"
)

// ---- Texts of all sorts

// streams: names of streams.
func streams() []string {
	return []string{
		"a", "z", "0", "9", "-", "_", "--", "order/17", "a/b", "a/b/c", "a/b/c/d", "-/_/0/z", "a-b_c9", "aa/aa/aa/aa",
		strings.Repeat("a", 32), strings.Repeat("z", 30) + "/z", "abcdefg/abcdefg/abcdefg/abcdefgh",
	}
}

// loose: patterns that are no names.
func loose() []string {
	return []string{
		"*", "**", "a/*", "*/a", "*/*", "a/**", "*/**", "a/*/c", "*/b/*/d", "*/*/*/*", "*/*/*/**", "a/b/c/**", "-/_/*/**",
		strings.Repeat("a", 30) + "/*", strings.Repeat("a", 29) + "/**", "*/" + strings.Repeat("a", 30),
	}
}

// wrong: texts that are neither.
func wrong() []string {
	return []string{
		"", "/", "//", "///", "/a", "a/", "a//b", "a/b//", "//a", "a/b/c/", "/a/b/c", "a/b/c/d/", "a/b/c/d/e", "a/b/c//d",
		"A", "Z", "a/B", "Ab", "aB", " ", "a b", " a", "a ", "a/ b", "a.b", "a:b", "a\\b", "a+b", "a\x00", "\x00", "\xff", "é", "ａ", "a/\xc3", "a\n", "\n",
		"***", "****", "a*", "*a", "a**", "**a", "*a*", "a/*b", "a/b*", "* ", " *", "*-", "_*",
		"**/a", "**/*", "**/**", "a/**/b", "a/**/**", "*/**/*", "**/", "/**", "*/", "/*", "a/**/", "a//**",
		"*/*/*/*/*", "*/*/*/*/**", "a/b/c/d/*", "a/b/c/d/**", "a/b/c/d/e/f/g/h",
		strings.Repeat("a", 33), strings.Repeat("a", 31) + "/*", strings.Repeat("a", 30) + "/**", "*/" + strings.Repeat("a", 31),
		"abcdefg/abcdefg/abcdefg/abcdefghi", strings.Repeat("a", 32) + "/", strings.Repeat("a", 32) + "\xff",
	}
}

// great: texts of many bytes.
func great() []string {
	const n = 1 << 20
	return []string{strings.Repeat("a", n), strings.Repeat("/", n), strings.Repeat("a/", n) + "a", strings.Repeat("*/", n) + "**", strings.Repeat("*", n), strings.Repeat("\xff", n)}
}

// rows: texts of so many parts at most, each one of these.
func rows(most int, parts ...string) []string {
	var all []string
	last := []string{""}
	for range most {
		var next []string
		for _, ahead := range last {
			for _, part := range parts {
				next = append(next, strings.TrimPrefix(ahead+"/"+part, "/"))
			}
		}
		last = next
		all = append(all, last...)
	}
	return all
}

// patterns: all that there are of a few parts.
func patterns() []string {
	return slices.DeleteFunc(rows(api.MaxParts, "a", "b", "*", "**"), func(p string) bool {
		return strings.Contains(p, "**/")
	})
}

// names: all that there are of a few parts; one of those no pattern names.
func names() []string {
	return rows(api.MaxParts, "a", "b", "c")
}

// wanted: what matches a row of parts, by an expression for all of it. Behind each part of the row stands a `/`.
func wanted(p string) *regexp.Regexp {
	var said strings.Builder
	for _, part := range strings.Split(p, "/") {
		switch part {
		case "**":
			said.WriteString("([^/]+/)*")
		case "*":
			said.WriteString("[^/]+/")
		default:
			said.WriteString(part + "/")
		}
	}
	return regexp.MustCompile("^" + said.String() + "$")
}

// matched: for each pattern, which rows of parts it matches. The rows are of more parts than patterns have, and of none, too.
func matched() (list []string, rowsOf map[string][]bool) {
	list, rowsOf = patterns(), map[string][]bool{}
	all := append([]string{""}, rows(api.MaxParts+1, "a", "b", "c")...)
	for _, p := range list {
		re := wanted(p)
		for _, row := range all {
			if row != "" {
				row += "/"
			}
			rowsOf[p] = append(rowsOf[p], re.MatchString(row))
		}
	}
	return list, rowsOf
}

// pairs: where one of each of two lists holds, too.
func pairs(a, b []bool, holds func(a, b bool) bool) bool {
	for i := range a {
		if holds(a[i], b[i]) {
			return true
		}
	}
	return false
}

// ---- P8.1 (Stream, Pattern, Match)

// checkSorts checks whether a text is a name, and whether it is a pattern.
func checkSorts(t *testing.T, s string, stream, is bool) {
	t.Helper()
	if got := pattern.Stream(s); got != stream {
		t.Errorf("Stream(%.50q): %v", s, got)
	}
	if got := pattern.Pattern(s); got != is {
		t.Errorf("Pattern(%.50q): %v", s, got)
	}
}

func TestNamesAndPatterns(t *testing.T) {
	for _, s := range streams() {
		checkSorts(t, s, true, true)
	}
	for _, p := range loose() {
		checkSorts(t, p, false, true)
	}
	for _, s := range append(wrong(), great()...) {
		checkSorts(t, s, false, false)
	}
}

// TestEachByte: wherever in a text it stands.
func TestEachByte(t *testing.T) {
	for n := range 256 {
		b := string([]byte{byte(n)})
		if b == "/" {
			continue
		}
		is := strings.Contains("abcdefghijklmnopqrstuvwxyz0123456789-_", b)
		for _, part := range []string{b, b + "x", "x" + b, "x" + b + "x"} {
			for _, s := range []string{part, part + "/a", "a/" + part, "a/" + part + "/b"} {
				checkSorts(t, s, is, is || part == "*")
			}
			checkSorts(t, "*/"+part, false, is || part == "*")
			checkSorts(t, part+"/**", false, is || part == "*")
		}
	}
}

// TestEachLength: of bytes and of parts.
func TestEachLength(t *testing.T) {
	for bytes := range 70 {
		for parts := 1; parts <= 7; parts++ {
			ahead := strings.Repeat("a/", parts-1)
			if len(ahead) >= bytes {
				continue
			}
			s := ahead + strings.Repeat("b", bytes-len(ahead))
			may := bytes <= 32 && parts <= 4
			checkSorts(t, s, may, may)
			checkSorts(t, "*"+s[1:], false, may && (parts > 1 || bytes == 1))
		}
	}
}

// TestAllShortTexts: over a few bytes, against expressions for all of a text.
func TestAllShortTexts(t *testing.T) {
	stream := regexp.MustCompile(`^[a-z0-9_-]+(/[a-z0-9_-]+){0,3}$`)
	is := regexp.MustCompile(`^(\*\*|([a-z0-9_-]+|\*)(/([a-z0-9_-]+|\*)){0,3}|([a-z0-9_-]+|\*)(/([a-z0-9_-]+|\*)){0,2}/\*\*)$`)
	last := []string{""}
	for range 9 {
		var next []string
		for _, s := range last {
			checkSorts(t, s, stream.MatchString(s), is.MatchString(s))
			for _, b := range []string{"a", "*", "/"} {
				next = append(next, s+b)
			}
		}
		last = next
	}
}

func TestMatch(t *testing.T) {
	for _, c := range []struct {
		p, s string
		want bool
	}{
		{"a/*", "a/b", true}, {"a/*", "a", false}, {"a/*", "a/b/c", false}, {"a/*", "b/a", false}, {"a/*", "a/-", true},
		{"a/**", "a", true}, {"a/**", "a/b", true}, {"a/**", "a/b/c", true}, {"a/**", "a/b/c/d", true}, {"a/**", "b", false}, {"a/**", "b/a", false}, {"a/**", "aa", false},
		{"a", "a", true}, {"a", "b", false}, {"a", "aa", false}, {"aa", "a", false}, {"a", "a/a", false}, {"a/a", "a", false}, {"a/b/c/d", "a/b/c/d", true},
		{"*", "a", true}, {"*", "a/b", false}, {"*", "order", true}, {"*/*", "a", false}, {"*/*", "a/b", true}, {"*/b", "a/b", true}, {"*/b", "a/c", false},
		{"**", "a", true}, {"**", "a/b/c/d", true}, {"*/**", "a", true}, {"*/**", "a/b/c", true}, {"*/*/**", "a", false}, {"*/*/**", "a/b", true},
		{"a/b/c/**", "a/b/c", true}, {"a/b/c/**", "a/b/c/d", true}, {"a/b/c/**", "a/b", false}, {"*/*/*/*", "a/b/c/d", true}, {"*/*/*/*", "a/b/c", false},
		{"a/*/c", "a/b/c", true}, {"a/*/c", "a/c", false}, {"a/*/c", "a/b/b/c", false}, {"a/*/c", "a/b/d", false}, {"a-", "a_", false}, {"-", "-", true},
		{"**", strings.Repeat("a", 32), true}, {strings.Repeat("a", 32), strings.Repeat("a", 32), true}, {"*", strings.Repeat("a", 32), true}, {"ab/*", "a/b", false},
	} {
		if got := pattern.Match(c.p, c.s); got != c.want {
			t.Errorf("%q, %q: %v", c.p, c.s, got)
		}
	}
}

// TestMatchAll: every pattern of a few parts, and every name.
func TestMatchAll(t *testing.T) {
	many := 0
	for _, p := range patterns() {
		re := wanted(p)
		for _, s := range names() {
			want := re.MatchString(s + "/")
			if got := pattern.Match(p, s); got != want {
				t.Errorf("%q, %q: %v", p, s, got)
			}
			if want {
				many++
			}
		}
	}
	if many < 1000 {
		t.Error("only", many)
	}
}

// TestMatchOfWrongOnes: where one of the two is not what it should be.
func TestMatchOfWrongOnes(t *testing.T) {
	for _, bad := range append(wrong(), great()...) {
		for _, p := range append(loose(), bad, "a") {
			if pattern.Match(p, bad) {
				t.Errorf("%q matches %.50q", p, bad)
			}
		}
		for _, s := range append(streams(), bad) {
			if pattern.Match(bad, s) {
				t.Errorf("%.50q matches %q", bad, s)
			}
		}
	}
	for _, q := range loose() {
		for _, p := range append(loose(), streams()...) {
			if pattern.Match(p, q) {
				t.Errorf("%q matches %q, which is no name", p, q)
			}
		}
	}
}

// ---- P8.2 (Covers, Meets)

func TestCovers(t *testing.T) {
	for _, c := range []struct {
		p, q string
		want bool
	}{
		{"a/**", "a/*/c", true}, {"a/**", "a/*", true}, {"a/**", "a", true}, {"a/**", "a/**", true}, {"a/**", "a/b/**", true}, {"a/**", "a/*/**", true}, {"a/**", "b", false}, {"a/**", "*", false}, {"a/**", "**", false}, {"a/**", "*/**", false}, {"a/**", "b/**", false},
		{"a/*", "a/b", true}, {"a/*", "a/*", true}, {"a/*", "a", false}, {"a/*", "a/b/c", false}, {"a/*", "a/**", false}, {"a/*", "b/*", false}, {"a/*", "*/b", false}, {"a/*", "a/b/**", false}, {"a/*", "a/*/**", false},
		{"*", "a", true}, {"*", "*", true}, {"*", "**", false}, {"*", "a/**", false}, {"*", "*/**", false}, {"*", "a/b", false}, {"a", "*", false}, {"a", "**", false}, {"a", "a", true}, {"a", "aa", false}, {"a", "a/**", false},
		{"**", "**", true}, {"**", "*", true}, {"**", "a", true}, {"**", "a/b/c/d", true}, {"**", "*/*/*/**", true}, {"**", "a/**", true},
		// Every name has a part, and none more than 4: but no part stands against `*` in the first two, and the `**` goes on in the others.
		{"*/**", "**", false}, {"*/*/**", "*/**", false}, {"*/*/*/*", "*/*/*/**", false}, {"a/b/c/*", "a/b/c/**", false},
		{"*/**", "*", true}, {"*/**", "a/**", true}, {"*/**", "*/**", true}, {"*/*/**", "*", false}, {"*/*/**", "a/b", true}, {"*/*/**", "a/**", false}, {"a/b/c/**", "a/b/c/*", true}, {"a/b/c/**", "a/b/c", true}, {"a/b/c/**", "a/b", false}, {"a/b/c/**", "a/b/**", false},
		{"*/b", "a/b", true}, {"*/b", "*/b", true}, {"*/b", "*/*", false}, {"*/b", "a/*", false}, {"*/*/*/*", "a/*/c/*", true}, {"*/b/*/d", "a/b/c/d", true}, {"*/b/*/d", "*/b/*/*", false}, {"a/*/c", "a/b/*", false},
		// No name that the second one matches is short enough to go on.
		{strings.Repeat("a", 29) + "/b", strings.Repeat("a", 29) + "/**", false}, {strings.Repeat("a", 29) + "/**", strings.Repeat("a", 29) + "/*", true},
	} {
		if got := pattern.Covers(c.p, c.q); got != c.want {
			t.Errorf("%q, %q: %v", c.p, c.q, got)
		}
	}
}

func TestMeets(t *testing.T) {
	long := strings.Repeat("a", 20)
	for _, c := range []struct {
		p, q string
		want bool
	}{
		{"*/b", "a/*", true}, {"a", "a/b", false}, {"a", "a", true}, {"a", "b", false}, {"a", "aa", false}, {"*", "a", true}, {"*", "*", true}, {"*", "a/b", false}, {"*", "*/*", false},
		{"**", "a", true}, {"**", "**", true}, {"**", "*/*/*/*", true}, {"**", "*/*/*/**", true}, {"**", "*", true},
		{"a/**", "a", true}, {"a/**", "*", true}, {"a/**", "b", false}, {"a/**", "b/**", false}, {"a/**", "*/**", true}, {"a/**", "a/b/c/d", true}, {"a/**", "*/b", true}, {"a/**", "b/a", false},
		{"a/b/**", "a", false}, {"a/b/**", "*", false}, {"a/b/**", "a/**", true}, {"a/b/**", "a/c/**", false}, {"a/*/**", "a/b/c/**", true}, {"*/*/**", "a", false}, {"*/*/**", "*/**", true}, {"*/*/*/**", "*/*/*", true}, {"*/*/*/**", "*/*", false},
		{"a/*/c", "*/b/*", true}, {"a/*/c", "*/b/d", false}, {"a/*/*/d", "*/b/c/*", true}, {"a/*/*/d", "*/b/c/e", false}, {"a/b/c/d", "a/b/c/d", true}, {"a/b/c/d", "a/b/c/e", false}, {"a/b/c/*", "a/b/c/**", true},
		// The row that both match has more bytes than a name may have.
		{long + "/*", "*/" + long, true}, {long + "/**", "*/" + long, true}, {long + "/*", "b/" + long, false}, {long + "/**", "*/*/" + long, true},
	} {
		if got := pattern.Meets(c.p, c.q); got != c.want {
			t.Errorf("%q, %q: %v", c.p, c.q, got)
		}
		if got := pattern.Meets(c.q, c.p); got != c.want {
			t.Errorf("%q, %q: %v", c.q, c.p, got)
		}
	}
}

// coversByParts: what the document says, part by part.
func coversByParts(p, q string) bool {
	of, against := strings.Split(p, "/"), strings.Split(q, "/")
	last := len(of) - 1
	open := of[last] == "**"
	if open {
		of = of[:last]
	}
	for i, part := range of {
		if i >= len(against) || against[i] != part && (part != "*" || against[i] == "**") {
			return false
		}
	}
	return open || len(of) == len(against)
}

// TestCoversAndMeetsAll: every two patterns of a few parts, against the document's words, and against the rows of parts that they match, of whatever number of parts.
func TestCoversAndMeetsAll(t *testing.T) {
	list, rowsOf := matched()
	for _, p := range list {
		for _, q := range list {
			only := pairs(rowsOf[p], rowsOf[q], func(a, b bool) bool { return b && !a })
			if got := pattern.Covers(p, q); got != coversByParts(p, q) || got == only {
				t.Errorf("%q, %q: covers: %v", p, q, got)
			}
			if got, both := pattern.Meets(p, q), pairs(rowsOf[p], rowsOf[q], func(a, b bool) bool { return a && b }); got != both {
				t.Errorf("%q, %q: meets: %v", p, q, got)
			}
		}
	}
}

// TestCoversAndMeetsOfWrongOnes: what is no pattern covers nothing and meets nothing, itself neither.
func TestCoversAndMeetsOfWrongOnes(t *testing.T) {
	for _, bad := range append(wrong(), great()...) {
		for _, other := range slices.Concat(streams(), loose(), wrong()[:5], []string{bad}) {
			if pattern.Covers(bad, other) || pattern.Covers(other, bad) {
				t.Errorf("%.50q, %.50q: one covers the other", bad, other)
			}
			if pattern.Meets(bad, other) || pattern.Meets(other, bad) {
				t.Errorf("%.50q, %.50q: they meet", bad, other)
			}
		}
	}
}

// ---- P8.3 (Compare)

// sign: -1, 0, 1.
func sign(n int) int {
	return max(-1, min(1, n))
}

// ahead: -1, 0, 1, byte by byte.
func ahead(p, q string) int {
	for i := range min(len(p), len(q)) {
		if p[i] != q[i] {
			return sign(int(p[i]) - int(q[i]))
		}
	}
	return sign(len(p) - len(q))
}

func TestCompare(t *testing.T) {
	for _, c := range []struct {
		p, q string
		want int
	}{
		{"", "", 0}, {"", "a", -1}, {"a", "a", 0}, {"a", "b", -1}, {"a", "aa", -1}, {"a", "a/b", -1}, {"b", "a/b", 1}, {"a/b", "a/b/c", -1},
		{"*", "**", -1}, {"*", "a", -1}, {"**", "a", -1}, {"a/*", "a/**", -1}, {"a/*", "a/-", -1}, {"a/**", "a/b", -1},
		// In the order of the bytes: * - / 0 .. 9 _ a .. z.
		{"*", "-", -1}, {"-", "/", -1}, {"/", "0", -1}, {"9", "_", -1}, {"_", "a", -1}, {"a-b", "a/b", -1}, {"a/b", "a0b", -1},
		// Texts that are no patterns.
		{"A", "a", -1}, {"a", "\x80", -1}, {"\x7f", "\xff", -1}, {"\x00", "", 1}, {"a\x00", "a", 1}, {"z", "é", -1}, {"//", "/", 1}, {"\xff", "\xff\x00", -1},
	} {
		if got := pattern.Compare(c.p, c.q); sign(got) != c.want {
			t.Errorf("%q, %q: %d", c.p, c.q, got)
		}
		if got := pattern.Compare(c.q, c.p); sign(got) != -c.want {
			t.Errorf("%q, %q: %d", c.q, c.p, got)
		}
	}
}

// TestCompareAll: texts of all sorts.
func TestCompareAll(t *testing.T) {
	all := slices.Concat(streams(), loose(), wrong(), great())
	for _, p := range all {
		for _, q := range all {
			if got := pattern.Compare(p, q); sign(got) != ahead(p, q) {
				t.Errorf("%.50q, %.50q: %d", p, q, got)
			}
		}
	}
	source := rand.New(rand.NewSource(8))
	for range 200000 {
		p, q := chanceBytes(source), chanceBytes(source)
		if got := pattern.Compare(p, q); sign(got) != ahead(p, q) {
			t.Fatalf("%q, %q: %d", p, q, got)
		}
	}
}

func chanceBytes(source *rand.Rand) string {
	s := make([]byte, source.Intn(5))
	for i := range s {
		s[i] = "\x00*-/0_az\x80\xff"[source.Intn(10)]
	}
	return string(s)
}

// ---- P8.4 (covered), P8.5 (met)

// chancePattern: any that may be, of few parts that are long at times.
func chancePattern(source *rand.Rand) string {
	for {
		parts := []string{"a", "b", "*", strings.Repeat("a", 1+source.Intn(32)), "a-b_0"}
		var row []string
		for range 1 + source.Intn(4) {
			row = append(row, parts[source.Intn(len(parts))])
		}
		if source.Intn(3) == 0 {
			row[len(row)-1] = "**"
		}
		if p := strings.Join(row, "/"); pattern.Pattern(p) {
			return p
		}
	}
}

// checkTwo checks what holds of every two patterns and every name: it tells whether the name is matched by the second one, that is covered.
func checkTwo(t *testing.T, p, q, s string) bool {
	t.Helper()
	covers, meets := pattern.Covers(p, q), pattern.Meets(p, q)
	ofP, ofQ := pattern.Match(p, s), pattern.Match(q, s)
	if covers && ofQ && !ofP {
		t.Errorf("%q covers %q, which alone matches %q", p, q, s)
	}
	if (ofP && ofQ || covers) && !meets {
		t.Errorf("%q, %q, %q: they don't meet", p, q, s)
	}
	return covers && ofQ
}

func TestCoveredAndMet(t *testing.T) {
	many := 0
	for _, p := range patterns() {
		for _, q := range patterns() {
			for _, s := range names() {
				if checkTwo(t, p, q, s) {
					many++
				}
			}
		}
	}
	if many < 5000 {
		t.Error("only", many)
	}
}

// TestCoveredAndMetByChance: patterns and names that come near the limit of bytes.
func TestCoveredAndMetByChance(t *testing.T) {
	source := rand.New(rand.NewSource(9))
	many := 0
	for range 300000 {
		p, q := chancePattern(source), chancePattern(source)
		s := strings.NewReplacer("**", "c/a", "*", "b").Replace(q)
		if checkTwo(t, p, q, s) {
			many++
		}
		if got := pattern.Covers(p, q); got != coversByParts(p, q) {
			t.Errorf("%q, %q: covers: %v", p, q, got)
		}
	}
	if many < 5000 {
		t.Error("only", many)
	}
}

func TestEveryPatternCoversItself(t *testing.T) {
	source := rand.New(rand.NewSource(10))
	list := slices.Concat(streams(), loose(), patterns())
	for range 1000 {
		list = append(list, chancePattern(source))
	}
	for _, p := range list {
		if !pattern.Covers(p, p) || !pattern.Meets(p, p) || pattern.Compare(p, strings.Clone(p)) != 0 {
			t.Errorf("%q", p)
		}
	}
	for _, s := range streams() {
		if !pattern.Match(s, s) {
			t.Errorf("%q", s)
		}
	}
}

// TestCoveringGoesOn: what covers one that covers a third one covers that, too.
func TestCoveringGoesOn(t *testing.T) {
	list := patterns()
	covered := map[string][]string{}
	for _, p := range list {
		for _, q := range list {
			if pattern.Covers(p, q) {
				covered[p] = append(covered[p], q)
			}
		}
	}
	many := 0
	for _, p := range list {
		for _, q := range covered[p] {
			for _, r := range covered[q] {
				if many++; !pattern.Covers(p, r) {
					t.Errorf("%q, %q, %q", p, q, r)
				}
			}
		}
	}
	if many < 5000 {
		t.Error("only", many)
	}
}
