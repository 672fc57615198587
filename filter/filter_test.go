package filter_test

import (
	"math/rand"
	"regexp"
	"slices"
	"strconv"
	"strings"
	"testing"
	"time"

	"surmise/api"
	"surmise/filter"
	"surmise/pattern"
)

// ---- Filters of all sorts

// few: patterns that cover, meet, and miss one another in all ways.
func few() []string {
	return []string{"a", "b", "*", "**", "a/b", "a/*", "*/b", "a/**", "*/*", "*/**", "a/b/**", "b/*/c"}
}

// wrong: texts that are no patterns.
func wrong() []string {
	return []string{
		"", "/", "a/", "/a", "a//b", "A", "a b", "a.b", "\x00", "\xff", "é", "a*", "*a", "***", "**/a", "**/**", "a/**/b", "*/*/*/*/*", "*/*/*/*/**", "a/b/c/d/e",
		strings.Repeat("a", 33), strings.Repeat("a", 30) + "/**", strings.Repeat("a/", 1<<18) + "a", strings.Repeat("*", 1<<18),
	}
}

// several: so many patterns of which none covers another one.
func several(n int) []string {
	l := make([]string, n)
	for i := range l {
		l[i] = "s/" + strconv.Itoa(i)
	}
	return l
}

// refused: filters that Check refuses.
func refused() [][]string {
	l := [][]string{several(9), several(300), slices.Repeat([]string{"a"}, 9), slices.Repeat([]string{"**"}, 1<<18), slices.Repeat([]string{""}, 9)}
	for i, bad := range wrong() {
		l = append(l, []string{bad}, []string{"**", bad}, []string{bad, "**"}, slices.Insert(several(7), i%8, bad))
	}
	return l
}

// all: the filters of so many patterns at most, each one of these.
func all(most int, parts []string) [][]string {
	last := [][]string{nil}
	l := last
	for range most {
		var next [][]string
		for _, ahead := range last {
			for _, p := range parts {
				next = append(next, append(slices.Clip(ahead), p))
			}
		}
		last = next
		l = append(l, last...)
	}
	return l
}

// chancePattern: any that may be, of few parts.
func chancePattern(source *rand.Rand) string {
	var row []string
	for range 1 + source.Intn(4) {
		row = append(row, []string{"a", "b", "c", "*", "*"}[source.Intn(5)])
	}
	if source.Intn(4) == 0 {
		row[len(row)-1] = "**"
	}
	return strings.Join(row, "/")
}

// chance: any filter that may be, up to so many patterns.
func chance(source *rand.Rand, most int) []string {
	l := make([]string, source.Intn(most+1))
	for i := range l {
		l[i] = chancePattern(source)
	}
	return l
}

// names: all streams of a few parts; one of those no pattern names.
func names() []string {
	var l []string
	last := []string{""}
	for range api.MaxParts {
		var next []string
		for _, ahead := range last {
			for _, part := range []string{"a", "b", "c", "d"} {
				next = append(next, strings.TrimPrefix(ahead+"/"+part, "/"))
			}
		}
		last = next
		l = append(l, last...)
	}
	return l
}

// wanted: what matches the streams of a filter, by an expression for all of it. Behind each part of a stream stands a `/`.
func wanted(l []string) *regexp.Regexp {
	said := []string{"there is none such"}
	for _, p := range l {
		one := strings.NewReplacer("**/", "([^/]+/)*", "*/", "[^/]+/").Replace(p + "/")
		said = append(said, one)
	}
	return regexp.MustCompile("^(" + strings.Join(said, "|") + ")$")
}

// covered: whether one of a list covers a pattern.
func covered(l []string, q string) bool {
	for _, p := range l {
		if pattern.Covers(p, q) {
			return true
		}
	}
	return false
}

// normal: the normal form as the document tells it, word by word.
func normal(l []string) []string {
	once := map[string]int{}
	for _, p := range l {
		once[p]++
	}
	var form []string
	for p := range once {
		others := slices.DeleteFunc(slices.Clone(l), func(q string) bool { return q == p })
		if !covered(others, p) {
			form = append(form, p)
		}
	}
	slices.Sort(form)
	return form
}

// shown: a filter, as far as it is worth being seen.
func shown(l []string) string {
	var s strings.Builder
	for i, p := range l {
		if i == 12 {
			return s.String() + "and more"
		}
		s.WriteString(strconv.Quote(p[:min(len(p), 40)]) + " ")
	}
	return s.String()
}

// ---- P9.1 (Check)

func checkCheck(t *testing.T, l []string, at int, e api.Errno) {
	t.Helper()
	if gotAt, got := filter.Check(l); gotAt != at || got != e {
		t.Errorf("%s: %d, %d", shown(l), gotAt, got)
	}
}

func TestCheck(t *testing.T) {
	checkCheck(t, nil, 0, api.OK)
	checkCheck(t, []string{}, 0, api.OK)
	checkCheck(t, few()[:8], 0, api.OK)
	checkCheck(t, few()[4:], 0, api.OK)
	checkCheck(t, []string{"a", "a//b"}, 1, api.ErrForm)
	checkCheck(t, []string{"", "b", ""}, 0, api.ErrForm)
	checkCheck(t, []string{strings.Repeat("a", 32), strings.Repeat("a", 29) + "/**", strings.Repeat("a", 33)}, 2, api.ErrForm)
	for n := range 300 {
		e := api.OK
		if n > 8 {
			e = api.ErrBig
		}
		checkCheck(t, several(n), 0, e)
		checkCheck(t, slices.Repeat([]string{"**"}, n), 0, e)
	}
}

// TestCheckTellsTheFirst: wherever the texts stand that are no patterns; and more than 8 is told ahead of them.
func TestCheckTellsTheFirst(t *testing.T) {
	for _, bad := range wrong() {
		for n := 1; n <= 10; n++ {
			for at := range n {
				l := several(n)
				l[at] = bad
				if n > 8 {
					checkCheck(t, l, 0, api.ErrBig)
					continue
				}
				checkCheck(t, l, at, api.ErrForm)
				for also := at + 1; also < n; also++ {
					l[also] = ""
					checkCheck(t, l, at, api.ErrForm)
				}
			}
		}
	}
}

// ---- P9.2 (Normal, Has)

func TestNormal(t *testing.T) {
	for _, c := range []struct{ l, want []string }{
		{nil, nil}, {[]string{}, nil}, {[]string{"a"}, []string{"a"}}, {[]string{"a", "a", "a"}, []string{"a"}},
		{[]string{"b", "a/*", "a/b", "b"}, []string{"a/*", "b"}},
		{[]string{"b", "a"}, []string{"a", "b"}}, {[]string{"a0", "a/b", "a-", "a_", "*"}, []string{"*", "a/b"}},
		{[]string{"z", "_", "9", "0", "-", "a/b", "a-b", "a0b"}, []string{"-", "0", "9", "_", "a-b", "a/b", "a0b", "z"}},
		{[]string{"a", "**"}, []string{"**"}}, {[]string{"**", "a", "*"}, []string{"**"}}, {[]string{"a/**", "a", "a/b", "a/*/c", "a/b/**"}, []string{"a/**"}},
		// What covers stands behind what it covers, and is covered itself.
		{[]string{"a/b/c", "a/b/*", "a/*/*", "a/**", "*/**", "**"}, []string{"**"}},
		{[]string{"a/b", "*/b", "a/*"}, []string{"*/b", "a/*"}}, {[]string{"*/b", "a/*", "*/*"}, []string{"*/*"}},
		// By their parts neither covers the other, though no name tells them apart.
		{[]string{"*/**", "**"}, []string{"**"}}, {[]string{"*/*/*/**", "*/*/*/*"}, []string{"*/*/*/**"}}, {[]string{"*/*/**", "*"}, []string{"*", "*/*/**"}},
		{several(8), several(8)}, {append(several(7), "s/*"), []string{"s/*"}},
	} {
		if got := filter.Normal(c.l); !slices.Equal(got, c.want) {
			t.Errorf("%s: %s", shown(c.l), shown(got))
		}
	}
}

// checkNormal checks a filter's normal form against the document's words, and that each of its patterns is needed.
func checkNormal(t *testing.T, l []string) {
	t.Helper()
	form := filter.Normal(l)
	if !slices.Equal(form, normal(l)) {
		t.Errorf("%s: %s", shown(l), shown(form))
	}
	for i, p := range form {
		if i > 0 && pattern.Compare(form[i-1], p) >= 0 {
			t.Errorf("%s: %s: out of order", shown(l), shown(form))
		}
		if covered(slices.Delete(slices.Clone(form), i, i+1), p) {
			t.Errorf("%s: %s: covered", shown(l), shown(form))
		}
	}
}

func TestNormalOfAll(t *testing.T) {
	for _, l := range all(4, few()) {
		checkNormal(t, l)
	}
	source := rand.New(rand.NewSource(1))
	for range 50000 {
		checkNormal(t, chance(source, 8))
	}
}

func TestHas(t *testing.T) {
	for _, c := range []struct {
		l      []string
		stream string
		want   bool
	}{
		{nil, "a", false}, {[]string{}, "a", false}, {[]string{"a"}, "a", true}, {[]string{"a"}, "b", false}, {[]string{"b", "a"}, "a", true}, {[]string{"a", "b"}, "a", true},
		{[]string{"a/*", "b"}, "a/x", true}, {[]string{"a/*", "b"}, "a", false}, {[]string{"a/*", "b"}, "b", true}, {[]string{"a/*", "b"}, "b/a", false},
		{[]string{"**"}, "a/b/c/d", true}, {[]string{"**"}, strings.Repeat("a", 32), true}, {several(8), "s/7", true}, {several(8), "s/8", false},
		{[]string{"a", "b/c", "*/*/**"}, "a/b/c", true}, {[]string{"a", "b/c", "*/*/**"}, "b", false},
		// What is no stream's name no filter has.
		{[]string{"*"}, "*", false}, {[]string{"**", "a/*"}, "a/*", false}, {[]string{"**"}, "**", false},
	} {
		if got := filter.Has(c.l, c.stream); got != c.want {
			t.Errorf("%s, %q: %v", shown(c.l), c.stream, got)
		}
	}
	for _, bad := range wrong() {
		for _, l := range [][]string{{"**"}, {"*", "**"}, {"*/**", "a"}} {
			if filter.Has(l, bad) {
				t.Errorf("%s has %.50q", shown(l), bad)
			}
		}
	}
}

// checkHas checks of all streams of a few parts which a filter has: it tells how many.
func checkHas(t *testing.T, l, streams []string) int {
	t.Helper()
	re, many := wanted(l), 0
	for _, s := range streams {
		want := re.MatchString(s + "/")
		if got := filter.Has(l, s); got != want {
			t.Errorf("%s, %q: %v", shown(l), s, got)
		}
		if want {
			many++
		}
	}
	return many
}

func TestHasOfAll(t *testing.T) {
	source, streams, many := rand.New(rand.NewSource(2)), names(), 0
	for _, l := range all(2, few()) {
		many += checkHas(t, l, streams)
	}
	for range 500 {
		many += checkHas(t, chance(source, 8), streams)
	}
	if many < 20000 {
		t.Error("only", many)
	}
}

// TestOfRefusedOnes: what Check refuses has no normal form, and no stream, though patterns that stand in it would match.
func TestOfRefusedOnes(t *testing.T) {
	for _, l := range refused() {
		if form := filter.Normal(l); len(form) > 0 {
			t.Errorf("%s: %s", shown(l), shown(form))
		}
		for _, s := range []string{"a", "s/0", "s/8", "", l[0]} {
			if filter.Has(l, s) {
				t.Errorf("%s has %.50q", shown(l), s)
			}
		}
	}
}

// ---- P9.3 (Covers, Meet)

func TestCovers(t *testing.T) {
	for _, c := range []struct {
		a, b []string
		want bool
	}{
		{nil, nil, true}, {[]string{"a"}, nil, true}, {nil, []string{"a"}, false}, {[]string{}, []string{}, true},
		{[]string{"**"}, []string{"a/*", "b"}, true}, {[]string{"a/*", "b"}, []string{"**"}, false}, {[]string{"a", "b"}, []string{"b", "a", "b"}, true}, {[]string{"a", "b"}, []string{"a", "c"}, false}, {[]string{"a", "b"}, []string{"c", "a"}, false},
		{[]string{"a/**"}, []string{"a", "a/b", "a/*/c"}, true}, {[]string{"a/**"}, []string{"a", "b"}, false}, {[]string{"*", "a/*"}, []string{"b", "a/b"}, true},
		// All streams of the pattern are had, but by no one pattern alone.
		{[]string{"a", "a/*", "a/*/**"}, []string{"a/**"}, false}, {[]string{"*", "*/*/**"}, []string{"**"}, false}, {[]string{"*/*/*/*"}, []string{"*/*/*/**"}, false},
		{several(8), several(8), true}, {several(7), several(8), false}, {several(8), several(7), true},
	} {
		if got := filter.Covers(c.a, c.b); got != c.want {
			t.Errorf("%s, %s: %v", shown(c.a), shown(c.b), got)
		}
	}
}

func TestMeet(t *testing.T) {
	for _, c := range []struct {
		a, b []string
		want bool
	}{
		{nil, nil, false}, {[]string{"**"}, nil, false}, {[]string{}, []string{}, false}, {[]string{"a"}, []string{"a"}, true}, {[]string{"a"}, []string{"b"}, false},
		{[]string{"a", "b"}, []string{"c", "b"}, true}, {[]string{"a", "b"}, []string{"c", "d"}, false}, {[]string{"a/*"}, []string{"*/b"}, true}, {[]string{"a/*", "b"}, []string{"*/b/*", "c"}, false},
		{[]string{"a/**"}, []string{"b", "*"}, true}, {[]string{"a/*/**"}, []string{"b", "*"}, false}, {[]string{"**"}, []string{"a/b/c/d"}, true}, {several(8), []string{"s/8", "s/7"}, true}, {several(8), []string{"s/8", "s/9"}, false},
	} {
		for _, p := range [][2][]string{{c.a, c.b}, {c.b, c.a}} {
			if got := filter.Meet(p[0], p[1]); got != c.want {
				t.Errorf("%s, %s: %v", shown(p[0]), shown(p[1]), got)
			}
		}
	}
}

// checkTwo checks two filters against the document's words: it tells whether they cover, and whether they meet.
func checkTwo(t *testing.T, a, b []string) (int, int) {
	t.Helper()
	covers, meet := 1, 0
	for _, q := range b {
		if !covered(a, q) {
			covers = 0
		}
		for _, p := range a {
			if pattern.Meets(p, q) {
				meet = 1
			}
		}
	}
	if got := filter.Covers(a, b); got != (covers == 1) {
		t.Errorf("%s, %s: covers: %v", shown(a), shown(b), got)
	}
	if got := filter.Meet(a, b); got != (meet == 1) {
		t.Errorf("%s, %s: meet: %v", shown(a), shown(b), got)
	}
	return covers, meet
}

func TestCoversAndMeetOfAll(t *testing.T) {
	var pairs, covers, meet int
	check := func(a, b []string) {
		c, m := checkTwo(t, a, b)
		pairs, covers, meet = pairs+1, covers+c, meet+m
	}
	list := all(2, few())
	for _, a := range list {
		for _, b := range list {
			check(a, b)
		}
	}
	source := rand.New(rand.NewSource(3))
	for range 100000 {
		check(chance(source, 8), chance(source, 3))
	}
	for _, n := range []int{covers, pairs - covers, meet, pairs - meet} {
		if n < 3000 {
			t.Error(pairs, covers, meet)
		}
	}
}

// TestCoversAndMeetOfRefusedOnes: they do neither, with whatever other one; not with themselves, nor with none.
func TestCoversAndMeetOfRefusedOnes(t *testing.T) {
	for _, bad := range refused() {
		for _, other := range [][]string{nil, {"**"}, {"a", "s/0"}, bad} {
			for _, p := range [][2][]string{{bad, other}, {other, bad}} {
				if filter.Covers(p[0], p[1]) || filter.Meet(p[0], p[1]) {
					t.Errorf("%s, %s", shown(p[0]), shown(p[1]))
				}
			}
		}
	}
}

// ---- P9.4 (Union)

func checkUnion(t *testing.T, l [][]string, want []string, e api.Errno) {
	t.Helper()
	if got, gotE := filter.Union(l...); !slices.Equal(got, want) || gotE != e {
		t.Errorf("%d filters, of %s: %s, %d", len(l), shown(slices.Concat(l...)), shown(got), gotE)
	}
}

func TestUnion(t *testing.T) {
	checkUnion(t, nil, nil, api.OK)
	checkUnion(t, [][]string{nil}, nil, api.OK)
	checkUnion(t, [][]string{nil, {}, nil}, nil, api.OK)
	checkUnion(t, [][]string{{"b", "a", "b"}}, []string{"a", "b"}, api.OK)
	checkUnion(t, [][]string{{"b"}, nil, {"a"}}, []string{"a", "b"}, api.OK)
	checkUnion(t, [][]string{{"a/*", "b"}, {"a/**"}}, []string{"a/**", "b"}, api.OK)
	checkUnion(t, [][]string{{"a/b"}, {"a/*"}, {"*/*"}, {"c"}}, []string{"*/*", "c"}, api.OK)
	checkUnion(t, [][]string{several(4), several(8)[4:]}, several(8), api.OK)
	checkUnion(t, [][]string{several(8), several(8), several(3)}, several(8), api.OK)
}

// TestUnionOfTooMany: more than 8 may come in, if what is left is a filter.
func TestUnionOfTooMany(t *testing.T) {
	many := several(40)
	checkUnion(t, [][]string{several(8), many[8:9]}, nil, api.ErrBig)
	checkUnion(t, [][]string{many[8:9], several(8)}, nil, api.ErrBig)
	checkUnion(t, slices.Collect(slices.Chunk(many, 8)), nil, api.ErrBig)
	checkUnion(t, slices.Collect(slices.Chunk(append(several(40), "s/*"), 8)), []string{"s/*"}, api.OK)
	checkUnion(t, slices.Collect(slices.Chunk(append([]string{"**"}, many...), 8)), []string{"**"}, api.OK)
	checkUnion(t, [][]string{several(7), {"t"}, {"u/**"}, {"u/v", "u"}}, nil, api.ErrBig)
	checkUnion(t, [][]string{several(7), {"u/**"}, {"u/v", "u"}}, append(several(7), "u/**"), api.OK)
	checkUnion(t, [][]string{several(8), {"t"}, {"s/*"}}, []string{"s/*", "t"}, api.OK)
}

// TestUnionTellsTheFirstError: the first filter's that Check refuses, ahead of that there are too many in all.
func TestUnionTellsTheFirstError(t *testing.T) {
	form, big := []string{"a", "a//b"}, several(9)
	checkUnion(t, [][]string{form}, nil, api.ErrForm)
	checkUnion(t, [][]string{big}, nil, api.ErrBig)
	checkUnion(t, [][]string{form, big}, nil, api.ErrForm)
	checkUnion(t, [][]string{big, form}, nil, api.ErrBig)
	checkUnion(t, [][]string{several(8), {"t"}, form, big}, nil, api.ErrForm)
	checkUnion(t, [][]string{{"**"}, nil, {"a"}, big, form}, nil, api.ErrBig)
	checkUnion(t, [][]string{{"**"}, slices.Repeat([]string{"a"}, 9)}, nil, api.ErrBig)
	for _, bad := range refused() {
		_, e := filter.Check(bad)
		for at := range 4 {
			l := slices.Insert([][]string{{"**"}, {"a"}, several(8)}, at, bad)
			checkUnion(t, l, nil, e)
			checkUnion(t, append(l, form, big), nil, e)
		}
	}
}

// chanceUnion: filters by chance, half of them with few patterns that are no names, and what the document says of them together.
func chanceUnion(source *rand.Rand) (l [][]string, want []string, e api.Errno) {
	narrow := source.Intn(2) == 0
	for range source.Intn(8) {
		one := chance(source, 1+source.Intn(8))
		for i, p := range one {
			if narrow && source.Intn(30) > 0 {
				one[i] = strings.ReplaceAll(p, "*", "c")
			}
		}
		l = append(l, one)
	}
	want = normal(slices.Concat(l...))
	if len(want) > 8 {
		return l, nil, api.ErrBig
	}
	return l, want, api.OK
}

func TestUnionByChance(t *testing.T) {
	source, big := rand.New(rand.NewSource(4)), 0
	for range 50000 {
		l, want, e := chanceUnion(source)
		if checkUnion(t, l, want, e); e == api.ErrBig {
			big++
		}
	}
	if big < 2000 || big > 48000 {
		t.Error(big)
	}
}

// TestUnionOfVeryMany: it takes no time that grows with the square of how many there are.
func TestUnionOfVeryMany(t *testing.T) {
	begin := time.Now()
	apart := slices.Collect(slices.Chunk(several(400000), 8))
	checkUnion(t, apart, nil, api.ErrBig)
	checkUnion(t, append(apart, []string{"s/*"}), []string{"s/*"}, api.OK)
	checkUnion(t, append(apart, []string{"a", "*/**"}), []string{"*/**"}, api.OK)
	checkUnion(t, append(apart, []string{"a", "s/**"}), []string{"a", "s/**"}, api.OK)
	if took := time.Since(begin); took > time.Minute {
		t.Error(took)
	}
}

// ---- P9.5 (the same), P9.6 (both)

// checkSame checks a filter, and one whose patterns are turned around, against its normal form.
func checkSame(t *testing.T, source *rand.Rand, l, streams []string) {
	t.Helper()
	form, turned := filter.Normal(l), slices.Clone(l)
	source.Shuffle(len(turned), func(i, j int) { turned[i], turned[j] = turned[j], turned[i] })
	for _, other := range [][]string{form, turned} {
		if !filter.Covers(l, other) || !filter.Covers(other, l) {
			t.Errorf("%s, %s: they don't cover one another", shown(l), shown(other))
		}
		if !slices.Equal(filter.Normal(other), form) {
			t.Errorf("%s, %s: another normal form", shown(l), shown(other))
		}
		for _, s := range streams {
			if filter.Has(l, s) != filter.Has(other, s) {
				t.Errorf("%s, %s: of %q", shown(l), shown(other), s)
			}
		}
		third := chance(source, 3)
		if filter.Covers(l, third) != filter.Covers(other, third) || filter.Covers(third, l) != filter.Covers(third, other) || filter.Meet(l, third) != filter.Meet(other, third) {
			t.Errorf("%s, %s, %s", shown(l), shown(other), shown(third))
		}
	}
}

func TestTheSame(t *testing.T) {
	source, streams := rand.New(rand.NewSource(5)), names()
	for _, l := range all(2, few()) {
		checkSame(t, source, l, streams)
	}
	for range 500 {
		checkSame(t, source, chance(source, 8), streams)
	}
	for range 20000 {
		checkSame(t, source, chance(source, 8), nil)
	}
}

// TestEachOrder: all orders of a filter's patterns, one by one.
func TestEachOrder(t *testing.T) {
	want := []string{"*/b", "a/**", "b", "c/*/*"}
	var turn func(done, left []string)
	turn = func(done, left []string) {
		if len(left) == 0 {
			if got := filter.Normal(done); !slices.Equal(got, want) {
				t.Errorf("%s: %s", shown(done), shown(got))
			}
		}
		for i, p := range left {
			turn(append(slices.Clip(done), p), slices.Delete(slices.Clone(left), i, i+1))
		}
	}
	turn(nil, []string{"b", "a/**", "a/*", "a/b", "*/b", "c/*/*", "c/d/*", "b"})
}

func TestBoth(t *testing.T) {
	source, streams, many := rand.New(rand.NewSource(6)), names(), 0
	for range 1500 {
		l := [][]string{chance(source, 3), chance(source, 2), chance(source, 3)}[:1+source.Intn(3)]
		both, e := filter.Union(l...)
		if e != api.OK {
			t.Errorf("%s: %d", shown(slices.Concat(l...)), e)
		}
		for _, s := range streams {
			one := slices.ContainsFunc(l, func(a []string) bool { return filter.Has(a, s) })
			if got := filter.Has(both, s); got != one {
				t.Errorf("%s: %q: %v", shown(slices.Concat(l...)), s, got)
			}
			if one {
				many++
			}
		}
		for _, a := range l {
			if !filter.Covers(both, a) {
				t.Errorf("%s doesn't cover %s", shown(both), shown(a))
			}
		}
	}
	if many < 20000 {
		t.Error("only", many)
	}
}

// ---- Rules that hold everywhere

// roomy: a filter whose memory goes on behind it.
func roomy(l ...string) []string {
	room := append(slices.Clone(l), "x/y", "", "z")
	return room[:len(l):len(room)]
}

// TestWhatIsHandedIn: it stays as it was, the room behind it too, and no answer shares its memory.
func TestWhatIsHandedIn(t *testing.T) {
	a, b := roomy("b", "a/*", "a/b", "b"), roomy("c", "a/**", "b")
	l := [][]string{a, b, nil}[:2:3]
	calls := []func() []string{
		func() []string {
			filter.Check(a)
			filter.Has(a, "a/b")
			filter.Covers(a, b)
			filter.Meet(a, b)
			return nil
		},
		func() []string { return filter.Normal(a) },
		func() []string { return filter.Normal(roomy("a")[:0]) },
		func() []string { u, _ := filter.Union(l...); return u },
		func() []string { u, _ := filter.Union(a); return u },
	}
	for i, call := range calls {
		first := call()
		kept := slices.Clone(first)
		for j := range first[:cap(first)] {
			first[:cap(first)][j] = "spoilt"
		}
		if !slices.Equal(call(), kept) {
			t.Error(i, "another answer")
		}
		if !slices.Equal(a[:cap(a)], []string{"b", "a/*", "a/b", "b", "x/y", "", "z"}) || !slices.Equal(b[:cap(b)], []string{"c", "a/**", "b", "x/y", "", "z"}) {
			t.Error(i, a[:cap(a)], b[:cap(b)])
		}
		if len(l[0]) != 4 || &l[0][0] != &a[0] || len(l[1]) != 3 || &l[1][0] != &b[0] || l[:3][2] != nil {
			t.Error(i, l)
		}
	}
}
