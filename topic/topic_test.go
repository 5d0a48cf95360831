package topic

import (
	"slices"
	"strings"
	"testing"
)

// Promise 7.1, Words.
func TestWords(t *testing.T) {
	for _, x := range []struct {
		s    string
		want []string
	}{
		{"", nil},
		{"a", []string{"a"}},
		{"a.b", []string{"a", "b"}},
		{"a.bc.def", []string{"a", "bc", "def"}},
		{".", []string{"", ""}},
		{"..", []string{"", "", ""}},
		{".a", []string{"", "a"}},
		{"a.", []string{"a", ""}},
		{"a..b", []string{"a", "", "b"}},
		{"a.*.#", []string{"a", "*", "#"}},
		{"a*.#b", []string{"a*", "#b"}},
		{" . ", []string{" ", " "}},
		{"a,b/c", []string{"a,b/c"}},
		{"\xff.\x00.\x80", []string{"\xff", "\x00", "\x80"}},
		{"\u65e5.\u672c", []string{"\u65e5", "\u672c"}},
		{"\u3002.\uff0e", []string{"\u3002", "\uff0e"}},
	} {
		if got := Words(x.s); !slices.Equal(got, x.want) {
			t.Errorf("Words(%q) = %q, not %q", x.s, got, x.want)
		}
	}
}

// Promise 7.1, Words: each byte but a point stays in its word; and words that
// no pattern may have so many or so long of.
func TestWordsOfAnyText(t *testing.T) {
	for c := range 256 {
		b := string([]byte{byte(c)})
		want := []string{"x" + b + "y", b}
		if b == "." {
			want = []string{"x", "y", "", ""}
		}
		if got := Words("x" + b + "y." + b); !slices.Equal(got, want) {
			t.Errorf("%q: %q, not %q", b, got, want)
		}
	}
	for _, n := range []int{1, 19, 20, 21, 255, 256, 100_000} {
		if l := Words(strings.Repeat(".", n)); len(l) != n+1 || slices.Max(l) != "" {
			t.Errorf("%d words of %d points", len(l), n)
		}
		if l := Words(strings.Repeat("x", n)); len(l) != 1 || len(l[0]) != n {
			t.Errorf("%d words of %d bytes without a point", len(l), n)
		}
		if l := Words(strings.Repeat("ab.", n) + "c"); len(l) != n+1 || l[0] != "ab" || l[n-1] != "ab" || l[n] != "c" {
			t.Errorf("%d words, not %d", len(l), n+1)
		}
	}
}

// Rules 2 and 3: the words are the caller's own.
func TestWordsAreOwn(t *testing.T) {
	const s = "a.b..c"
	first, second := Words(s), Words(s)
	clear(first)
	_ = append(first[:1], "z", "z", "z")
	if !slices.Equal(second, []string{"a", "b", "", "c"}) || !slices.Equal(Words(s), second) {
		t.Error("words that were answered are other now")
	}
}

// Promise 7.1, May.
func TestMay(t *testing.T) {
	for _, s := range []string{
		"", "a", "*", "#", "a.b", "a.*.#", "#.#", "*.*", "*.#.*", ".", "..", "a.", ".a", ".*", "#.", "*..#",
		" ", "\xff\xfe", "\x00.*", "\u65e5.#.\u672c", "+", "a?b", "\uff0a", "\uff03",
	} {
		if !May(s) {
			t.Errorf("%q may not be", s)
		}
	}
	for _, s := range []string{
		"a*", "*a", "a*b", "a#", "#a", "a#b", "**", "##", "*#", "#*", "***", "* ", " #",
		"a.b*", "a.#b.c", "#.a*", "a*.#", "*.*.**", "##.", ".*#", "\xff*", "#\u65e5",
	} {
		if May(s) {
			t.Errorf("%q may be", s)
		}
	}
}

// sized are texts of so many bytes and words: whether a pattern or a key may be such.
var sized = []struct {
	s  string
	ok bool
}{
	{strings.Repeat("x", 254), true},
	{strings.Repeat("x", 255), true},
	{strings.Repeat("x", 256), false},
	{strings.Repeat("x", 1<<20), false},
	{strings.Repeat("\u65e5", 85), true},
	{strings.Repeat("\u65e5", 85) + "x", false},
	{strings.Repeat("\u65e5", 86), false},
	{strings.Repeat("a.", 18) + "a", true},
	{strings.Repeat("a.", 19) + "a", true},
	{strings.Repeat("a.", 20) + "a", false},
	{strings.Repeat("a.", 19), true},
	{strings.Repeat("a.", 20), false},
	{strings.Repeat(".", 18), true},
	{strings.Repeat(".", 19), true},
	{strings.Repeat(".", 20), false},
	{strings.Repeat(".", 255), false},
	{strings.Repeat(".", 1<<20), false},
	{strings.Repeat("a.", 19) + strings.Repeat("x", 217), true},
	{strings.Repeat("a.", 19) + strings.Repeat("x", 218), false},
	{strings.Repeat("a.", 20) + strings.Repeat("x", 215), false},
	{strings.Repeat("a.", 20) + strings.Repeat("x", 216), false},
}

// Promise 7.1, May and Match: how many words and bytes there may be, of a pattern and of a key.
func TestLimits(t *testing.T) {
	for _, x := range sized {
		if May(x.s) != x.ok {
			t.Errorf("a pattern of %d bytes: %t", len(x.s), !x.ok)
		}
		for _, p := range []string{"#", "#.#", "#.*", "*.#", x.s} {
			if Match(p, x.s) != x.ok {
				t.Errorf("%.20q and a key of %d bytes: %t", p, len(x.s), !x.ok)
			}
		}
		if Match(x.s, "b") {
			t.Errorf("a pattern of %d bytes matches b", len(x.s))
		}
	}
	for _, x := range []struct {
		n  int
		ok bool
	}{{19, true}, {20, true}, {21, false}, {128, false}, {129, false}} {
		all, each := strings.Repeat("#.", x.n-1)+"#", strings.Repeat("*.", x.n-1)+"*"
		if May(all) != x.ok || May(each) != x.ok || Match(all, "") != x.ok || Match(all, "a.b") != x.ok {
			t.Error(x.n, "wild words")
		}
		if Match(each, strings.Repeat("a.", x.n-1)+"a") != x.ok {
			t.Error(x.n, "words for a * each")
		}
	}
}

// Promise 7.1, Match: what is alike on both sides, and still no pattern.
func TestMatchOfNoPattern(t *testing.T) {
	for _, p := range []string{"a*", "*a", "a#", "**", "##", "*#", "a.b*.c", "#.a*", "#.##"} {
		for _, key := range []string{p, "", "a", "a.b", "ab", "a.b.c", "a.bc.c", "*", "#"} {
			if Match(p, key) {
				t.Errorf("%q matches %q", p, key)
			}
		}
	}
}

// Promise 7.1, Match.
func TestMatch(t *testing.T) {
	for _, x := range []struct {
		pattern string
		yes, no []string
	}{
		{"", []string{""}, []string{"a", ".", "a.b", "#", "*"}},
		{"a", []string{"a"}, []string{"", "A", "b", "aa", "a.", ".a", "a.a", "*", "#"}},
		{"a.b", []string{"a.b"}, []string{"a", "b", "ab", "a..b", "b.a", "a.b.", "a.b.c", "a.*", "a.#"}},
		{"*", []string{"a", "abc", "*", "#", "a*", "\xff", " "}, []string{"", ".", "a.b", "a."}},
		{"*.*", []string{"a.b", ".", "a.", ".b", "*.#"}, []string{"", "a", "a.b.c", ".."}},
		{"#", []string{"", "a", ".", "a.b", "a.b.c.d", "#", "*.#", "a#b"}, nil},
		{"#.#.#", []string{"", "a", ".", "a.b", "a.b.c.d.e"}, nil},
		{"a.#", []string{"a", "a.", "a.b", "a.b.c", "a.a", "a.#"}, []string{"", "b", "b.a", ".a", "ab", "aa.b"}},
		{"#.a", []string{"a", ".a", "b.a", "a.a", "a.b.a"}, []string{"", "b", "a.b", "a.", "ba"}},
		{"a.#.b", []string{"a.b", "a..b", "a.x.b", "a.x.y.b", "a.b.b", "a.a.b", "a.b.a.b"}, []string{"", "a", "b", "ab", "a.x", "a.b.a", "x.a.b", "a.x.y"}},
		{"*.#", []string{"a", ".", "a.b", "a.b.c"}, []string{""}},
		{"#.*", []string{"a", ".", "a.b", "a.b.c"}, []string{""}},
		{"*.#.*", []string{"a.b", ".", "a.b.c", "a.b.c.d"}, []string{"", "a"}},
		{"#.*.#", []string{"a", ".", "a.b", "a.b.c"}, []string{""}},
		{"#.*.a", []string{"b.a", "a.a", ".a", "c.b.a"}, []string{"", "a", "a.b"}},
		{"a.*.c", []string{"a.b.c", "a..c", "a.a.c", "a.*.c"}, []string{"a.c", "a.b.b.c", "a.b.c.d", "a.b"}},
		{"#.a.#", []string{"a", "a.b", "b.a", "b.a.c.a", "c.b.a"}, []string{"", "b", "b.c", "aa"}},
		{"#.a.b", []string{"a.b", "a.a.b", "a.b.a.b", "a.x.a.b"}, []string{"a.b.a", "b", "a", "a.b.x"}},
		{"#.a.b.#.a", []string{"a.b.a", "a.a.b.a", "a.b.b.a", "a.b.x.a.a"}, []string{"a.b", "a.a", "b.a.a", "a.b.a.b"}},
		{"#.x.#.y.#", []string{"x.y", "x.x.z.y", "y.x.y"}, []string{"y.x", "x", "y", "y.y.x"}},
		{".", []string{"."}, []string{"", "a", "a.", ".a", ".."}},
		{"a..b", []string{"a..b"}, []string{"a.b", "a.x.b", "a...b"}},
		{"a.", []string{"a."}, []string{"a", "a.b", "a..", ".a"}},
		{"#.", []string{".", "..", "a.", "a.b."}, []string{"", "a", ".a"}},
		{".#", []string{".", "..", ".a", ".a.b"}, []string{"", "a", "a."}},
		{"\xff.#", []string{"\xff", "\xff.\xfe"}, []string{"\xfe", "\ufffd", "\xfe.\xff"}},
		{"\u65e5.*", []string{"\u65e5.\u672c"}, []string{"\u65e5", "\u672c.\u65e5"}},
	} {
		for _, key := range x.yes {
			if !Match(x.pattern, key) {
				t.Errorf("%q does not match %q", x.pattern, key)
			}
		}
		for _, key := range x.no {
			if Match(x.pattern, key) {
				t.Errorf("%q matches %q", x.pattern, key)
			}
		}
	}
}

// inWords is what chapter 7 says of words, by trying all that each # may stand for.
func inWords(p, k []string) bool {
	if len(p) == 0 {
		return len(k) == 0
	}
	if p[0] == "#" {
		for n := range len(k) + 1 {
			if inWords(p[1:], k[n:]) {
				return true
			}
		}
		return false
	}
	return len(k) > 0 && (p[0] == "*" || p[0] == k[0]) && inWords(p[1:], k[1:])
}

// texts are all lists of up to most of the words, each joined by points.
func texts(words []string, most int) []string {
	var all []string
	level := [][]string{nil}
	for range most {
		var next [][]string
		for _, l := range level {
			for _, w := range words {
				longer := append(slices.Clone(l), w)
				next = append(next, longer)
				all = append(all, strings.Join(longer, "."))
			}
		}
		level = next
	}
	return append(all, "")
}

// Promise 7.1, Match: short patterns and short keys, all of them.
func TestMatchAll(t *testing.T) {
	split := func(s string) []string {
		if s == "" {
			return nil
		}
		return strings.Split(s, ".")
	}
	patterns, keys := texts([]string{"a", "b", "*", "#"}, 5), texts([]string{"a", "b", ""}, 5)
	met := map[bool]int{}
	for _, p := range patterns {
		for _, key := range keys {
			want := inWords(split(p), split(key))
			met[want]++
			if Match(p, key) != want {
				t.Fatalf("Match(%q, %q) = %t", p, key, !want)
			}
		}
	}
	if met[true] < 10_000 || met[false] < 10_000 {
		t.Error(met)
	}
}

// Rule 1: patterns that go back again and again end, all the same.
func TestMatchGoesBack(t *testing.T) {
	a := func(n int) string { return strings.Repeat("a.", n) }
	for _, x := range []struct {
		pattern, key string
		want         bool
	}{
		{strings.Repeat("#.a.", 9) + "#.b", a(20)[:39], false},
		{strings.Repeat("#.a.", 9) + "#.b", a(19) + "b", true},
		{strings.Repeat("#.a.", 10)[:39], a(20)[:39], true},
		{strings.Repeat("#.a.", 10)[:39], a(9) + "b", false},
		{strings.Repeat("#.", 19) + "b", a(19) + "b", true},
		{strings.Repeat("#.", 19) + "b", a(20)[:39], false},
		{strings.Repeat("*.#.", 9) + "*.b", a(19) + "b", true},
		{strings.Repeat("*.#.", 9) + "*.b", a(9) + "b", false},
		{"#." + a(10) + "b", a(19) + "b", true},
		{"#." + a(10) + "b." + a(8)[:15], a(20)[:39], false},
	} {
		if !May(x.pattern) || Match(x.pattern, x.key) != x.want {
			t.Errorf("%q and %q: %t", x.pattern, x.key, !x.want)
		}
	}
}

// Promise 7.2: who wants what: each key comes to those whose patterns stand for it, whatever was asked ahead.
func TestWhoWantsWhat(t *testing.T) {
	wants := []struct{ who, pattern string }{
		{"all", "#"},
		{"errors", "#.error"},
		{"disks", "*.disk.#"},
		{"north", "north.#"},
		{"just that", "north.disk.error"},
		{"roots", ""},
		{"nobody", "north.*isk"},
	}
	for range 2 {
		for _, x := range []struct {
			key  string
			want []string
		}{
			{"", []string{"all", "roots"}},
			{"north", []string{"all", "north"}},
			{"error", []string{"all", "errors"}},
			{"south.disk", []string{"all", "disks"}},
			{"north.disk.error", []string{"all", "errors", "disks", "north", "just that"}},
			{"south.disk.3.error", []string{"all", "errors", "disks"}},
			{"north.disk.full", []string{"all", "disks", "north"}},
			{"a.north.disk", []string{"all"}},
			{"error.north", []string{"all"}},
		} {
			var got []string
			for _, w := range wants {
				if Match(w.pattern, x.key) {
					got = append(got, w.who)
				}
			}
			if !slices.Equal(got, x.want) {
				t.Errorf("%q: %q, not %q", x.key, got, x.want)
			}
		}
	}
}
