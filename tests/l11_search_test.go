package tests

import (
	"math"
	"math/rand"
	"slices"
	"strconv"
	"strings"
	"testing"

	"loop.example/g00333/impl"
)

func TestSearchConstants(t *testing.T) {
	if impl.MaxText != 200 || impl.MaxWords != 8 {
		t.Error(impl.MaxText, impl.MaxWords)
	}
}

func TestSearchNotation(t *testing.T) {
	want := []impl.State{{Up: -1}, {Byte: 'h'}, {Up: 1, Byte: 'e', Fail: 7, Words: []int{0, 2}}}
	if l := states("-1 . 0,0 h 0,1 e 7 0 2"); !sameStates(l, want) {
		t.Error("no test: the notation of states:", l)
	}
	if l := foundWords("2 0,1 1"); !slices.Equal(l, []impl.Found{{At: 2, Word: 0}, {At: 1, Word: 1}}) || foundWords("") != nil {
		t.Error("no test: the notation of places:", l)
	}
	if l := textsOver("ab", 1, 2); !slices.Equal(l, []string{"a", "b", "aa", "ab", "ba", "bb"}) {
		t.Error("no test: all texts:", l)
	}
}

// heSheHers are the words of which Aho and Corasick tell, without the fourth.
func heSheHers() []string {
	return []string{"he", "she", "hers"}
}

// Texts and their borders.

// bordered holds BordersOf and PeriodOf against a search by hand, and against each other.
func bordered(t *testing.T, s string) {
	t.Helper()
	borders, ok := impl.BordersOf(s)
	if want := wantBorders(s); !slices.Equal(borders, want) || !ok {
		t.Errorf("BordersOf(%q) = %v, %v; want %v", s, borders, ok, want)
		return
	}
	period, ok := impl.PeriodOf(s)
	if want := wantPeriod(s); period != want || !ok || period != len(s)-borders[len(s)-1] {
		t.Errorf("PeriodOf(%q) = %d, %v; want %d", s, period, ok, want)
	}
}

func TestBordersOfTable(t *testing.T) {
	for s, want := range map[string][]int{
		"a":            {0},
		"aa":           {0, 1},
		"ab":           {0, 0},
		"aba":          {0, 0, 1},
		"aaaa":         {0, 1, 2, 3},
		"aaab":         {0, 1, 2, 0},
		"abab":         {0, 0, 1, 2},
		"ababaa":       {0, 0, 1, 2, 3, 1},
		"aabaaab":      {0, 1, 0, 1, 2, 2, 3},
		"abcabcab":     {0, 0, 0, 1, 2, 3, 4, 5},
		"abcdabd":      {0, 0, 0, 0, 1, 2, 0},
		"abacabab":     {0, 0, 1, 0, 1, 2, 3, 2},
		"abcd":         {0, 0, 0, 0},
		"\x00":         {0},
		"\x00\xff\x00": {0, 0, 1},
		"\xff\xff\x7f": {0, 1, 0},
		"ää":           {0, 0, 1, 2},
		"äå":           {0, 0, 1, 0},
	} {
		if got, ok := impl.BordersOf(s); !slices.Equal(got, want) || !ok || !slices.Equal(wantBorders(s), want) {
			t.Errorf("BordersOf(%q) = %v, %v; want %v", s, got, ok, want)
		}
	}
}

func TestPeriodOfTable(t *testing.T) {
	for s, want := range map[string]int{
		"a": 1, "aa": 1, "aaaa": 1, "ab": 2, "aba": 2, "abab": 2, "ababa": 2, "abb": 3, "aab": 3, "abcab": 3, "abcabcab": 3, "aabaa": 3,
		"aabaaab": 4, "abcd": 4, "abca": 3, "ababaa": 5, "abacabab": 6, "\x00\x00": 1, "\x00\xff": 2, "\xff": 1, "aaab": 4, "abaab": 3,
	} {
		if got, ok := impl.PeriodOf(s); got != want || !ok || wantPeriod(s) != want {
			t.Errorf("PeriodOf(%q) = %d, %v; want %d", s, got, ok, want)
		}
	}
}

func TestBordersOfAllShortTexts(t *testing.T) {
	all := append(textsOver("ab", 1, 11), textsOver("abc", 1, 7)...)
	for _, s := range append(all, textsOver("\x00\x80\xff", 1, 5)...) {
		bordered(t, s)
	}
	if len(all) != 4094+3279 {
		t.Error("no test: so many texts:", len(all))
	}
}

func TestBordersOfRandomTexts(t *testing.T) {
	r := rand.New(rand.NewSource(1))
	long, deep := 0, 0
	for range 1500 {
		s := randomRuns(r, randomLetters(r), impl.MaxText)
		if s == "" {
			continue
		}
		bordered(t, s)
		if len(s) > 100 {
			long++
		}
		if wantBorder(s) > 5 {
			deep++
		}
	}
	if long < 100 || deep < 100 {
		t.Error("no test: so few are long, or have long borders:", long, deep)
	}
}

// In each of these a border is cut back by many steps, or by as few as can be.
func runsOfMaxText() []string {
	one, two := "a", "ab"
	for len(two) < impl.MaxText {
		one, two = two, two+one
	}
	return []string{
		strings.Repeat("a", 200), strings.Repeat("a", 199) + "b", "b" + strings.Repeat("a", 199), strings.Repeat("ab", 100), strings.Repeat("aab", 66) + "aa",
		strings.Repeat("a", 100) + strings.Repeat("b", 100), strings.Repeat("a", 100) + "b" + strings.Repeat("a", 99), two[:200], strings.Repeat("abcdefghij", 20),
		strings.Repeat("\x00", 200), strings.Repeat("\xff\x00", 100), strings.Repeat(strings.Repeat("a", 19)+"b", 10),
	}
}

func TestBordersOfMaxText(t *testing.T) {
	for _, s := range runsOfMaxText() {
		if len(s) != impl.MaxText {
			t.Error("no test: so long is a text:", len(s))
		}
		bordered(t, s)
		bordered(t, s[:199])
		for _, c := range []string{"a", "b", "\x00"} {
			if got, ok := impl.BordersOf(s + c); len(got) != 0 || ok {
				t.Errorf("BordersOf of 201 bytes = %v, %v", got, ok)
			}
			if got, ok := impl.PeriodOf(s + c); got != 0 || ok {
				t.Errorf("PeriodOf of 201 bytes = %v, %v", got, ok)
			}
		}
	}
	var rising []int
	for k := range 200 {
		rising = append(rising, k)
	}
	if got, ok := impl.BordersOf(strings.Repeat("x", 200)); !slices.Equal(got, rising) || !ok {
		t.Errorf("BordersOf of one byte 200 times = %v, %v", got, ok)
	}
	for s, want := range map[string]int{strings.Repeat("a", 200): 1, strings.Repeat("ab", 100): 2, strings.Repeat("a", 199) + "b": 200, strings.Repeat("abc", 66) + "ab": 3} {
		if got, ok := impl.PeriodOf(s); got != want || !ok {
			t.Errorf("PeriodOf(%q) = %d, %v; want %d", s, got, ok, want)
		}
	}
}

func TestBordersOfNoText(t *testing.T) {
	if got, ok := impl.BordersOf(""); len(got) != 0 || ok {
		t.Errorf("BordersOf of no bytes = %v, %v", got, ok)
	}
	if got, ok := impl.PeriodOf(""); got != 0 || ok {
		t.Errorf("PeriodOf of no bytes = %v, %v", got, ok)
	}
}

// Each byte is one of its own, 0 and those above 127 too.
func TestBordersOfEachByte(t *testing.T) {
	for c := range 256 {
		b, other := string([]byte{byte(c)}), string([]byte{byte(c + 128)})
		for _, s := range []string{b, b + b, b + other, b + other + b, b + b + other + b + b} {
			bordered(t, s)
		}
		if got, ok := impl.BordersOf(b + other + b); !slices.Equal(got, []int{0, 0, 1}) || !ok {
			t.Errorf("BordersOf(%q) = %v, %v", b+other+b, got, ok)
		}
	}
}

// Places.

// placed holds FindAll against a search place by place, and its looks against what stands there; it tells the looks.
func placed(t *testing.T, s, p string) int {
	t.Helper()
	places, looks, ok := impl.FindAll(s, p)
	if want := wantPlaces(s, p); !slices.Equal(places, want) || !ok {
		t.Errorf("FindAll(%q, %q) = %v, %v; want %v", s, p, places, ok, want)
	}
	if want := wantLooks(s, p); looks != want || looks > 2*len(s) || looks < len(s) {
		t.Errorf("FindAll(%q, %q): %d looks; want %d", s, p, looks, want)
	}
	return looks
}

// The looks are counted by hand, step by step.
func TestFindAllTable(t *testing.T) {
	for _, c := range []struct {
		s, p   string
		places []int
		looks  int
	}{
		{"", "a", nil, 0},
		{"", "ab", nil, 0},
		{"a", "a", []int{0}, 1},
		{"b", "a", nil, 1},
		{"a", "ab", nil, 1},
		{"b", "ab", nil, 1},
		{"ab", "ab", []int{0}, 2},
		{"abc", "abc", []int{0}, 3},
		{"aab", "aab", []int{0}, 3},
		// b is held against the second a, then against the first one.
		{"ab", "aab", nil, 3},
		{"aaaa", "a", []int{0, 1, 2, 3}, 4},
		{"bbbb", "a", nil, 4},
		{"aaaa", "aa", []int{0, 1, 2}, 4},
		{"aaaa", "aaaa", []int{0}, 4},
		{"aaaa", "aaaaa", nil, 4},
		// b is held against each of the four.
		{"aaab", "aaaa", nil, 7},
		{"aabab", "ab", []int{1, 3}, 6},
		{"ababa", "aba", []int{0, 2}, 5},
		{"abababa", "aba", []int{0, 2, 4}, 7},
		{"abaaba", "aba", []int{0, 3}, 7},
		{"baab", "aa", []int{1}, 5},
		{"abab", "aa", nil, 6},
		{"aacaa", "aa", []int{0, 3}, 6},
		{"abababac", "ababac", []int{2}, 9},
		{"abcabcabd", "abcabd", []int{3}, 10},
		// d is held against both c, then against the a.
		{"abcabd", "abcabcabd", nil, 8},
		{"xaxbxab", "ab", []int{5}, 8},
		{"aaabaaab", "aaab", []int{0, 4}, 8},
		{"aaaab", "aab", []int{2}, 7},
		{"\x00\xff\x00\xff\x00", "\x00\xff\x00", []int{0, 2}, 5},
		{"\xff\x7f", "\x7f", []int{1}, 2},
		{"ä ä", "ä", []int{0, 3}, 5},
		{"äå", "å", []int{2}, 5},
	} {
		places, looks, ok := impl.FindAll(c.s, c.p)
		if !slices.Equal(places, c.places) || looks != c.looks || !ok {
			t.Errorf("FindAll(%q, %q) = %v, %d, %v; want %v, %d", c.s, c.p, places, looks, ok, c.places, c.looks)
		}
		if placed(t, c.s, c.p) != wantLooks(c.s, c.p) || wantLooks(c.s, c.p) != c.looks {
			t.Errorf("%q, %q: the two counts differ: %d, %d", c.s, c.p, wantLooks(c.s, c.p), c.looks)
		}
	}
}

func TestFindAllOfAllShortTexts(t *testing.T) {
	tried, again := 0, 0
	for _, c := range []struct {
		texts, words []string
	}{
		{textsOver("ab", 0, 9), textsOver("ab", 1, 5)},
		{textsOver("abc", 0, 5), textsOver("abc", 1, 4)},
		{textsOver("ab", 0, 4), textsOver("ab", 5, 7)},
	} {
		for _, s := range c.texts {
			for _, p := range c.words {
				tried++
				if placed(t, s, p) > len(s) {
					again++
				}
			}
		}
	}
	if tried < 100000 || again < 10000 {
		t.Error("no test: so few, or so few with a byte held again:", tried, again)
	}
}

func TestFindAllOfRandomTexts(t *testing.T) {
	r := rand.New(rand.NewSource(2))
	found, overlaps, most := 0, 0, 0
	for range 4000 {
		letters := randomLetters(r)
		s := randomRuns(r, letters, impl.MaxText)
		p := randomOver(r, letters, 1, 5)
		if len(s) > 0 && r.Intn(2) == 0 {
			from := r.Intn(len(s))
			p = s[from : from+1+r.Intn(len(s)-from)]
		}
		if r.Intn(3) == 0 {
			p = (p + randomOver(r, letters, 1, 2))[:min(len(p)+1, 200)]
		}
		looks := placed(t, s, p)
		places := wantPlaces(s, p)
		if len(places) > 0 {
			found++
		}
		for i := 1; i < len(places); i++ {
			if places[i] < places[i-1]+len(p) {
				overlaps++
				break
			}
		}
		if len(s) > 50 && looks*10 > len(s)*16 {
			most++
		}
	}
	if found < 1000 || overlaps < 200 || most < 10 {
		t.Error("no test: so few are found, overlap, or take many looks:", found, overlaps, most)
	}
}

func TestFindAllOfMaxText(t *testing.T) {
	for _, s := range runsOfMaxText() {
		for _, p := range runsOfMaxText() {
			placed(t, s, p)
			placed(t, s, p[:199])
			placed(t, s, p[1:])
			placed(t, s[:199], p)
			placed(t, s, p[:20])
			placed(t, s, p[199:])
			placed(t, s[:1], p)
			placed(t, "", p)
		}
		if got, looks, ok := impl.FindAll(s, s); !slices.Equal(got, []int{0}) || looks != 200 || !ok {
			t.Errorf("FindAll of the text itself = %v, %d, %v", got, looks, ok)
		}
	}
	var all []int
	for at := range 200 {
		all = append(all, at)
	}
	as := strings.Repeat("a", 200)
	for _, c := range []struct {
		s, p   string
		places []int
		looks  int
	}{
		{as, "a", all, 200},
		{as, "aa", all[:199], 200},
		{as, as[:199], all[:2], 200},
		{as, as, all[:1], 200},
		{as, "b", nil, 200},
		{as, "ab", nil, 399},
		{as[:199] + "b", as, nil, 399},
		{as[:199], as, nil, 199},
		{strings.Repeat("ab", 100), "aa", nil, 300},
		{as, as[:199] + "b", nil, 201},
	} {
		if places, looks, ok := impl.FindAll(c.s, c.p); !slices.Equal(places, c.places) || looks != c.looks || !ok {
			t.Errorf("FindAll(%q, %q) = %v, %d, %v; want %v, %d", c.s, c.p, places, looks, ok, c.places, c.looks)
		}
	}
}

func TestFindAllOfWrongTexts(t *testing.T) {
	for _, c := range []struct{ s, p string }{
		{"", ""},
		{"a", ""},
		{strings.Repeat("a", 200), ""},
		{strings.Repeat("a", 201), "a"},
		{strings.Repeat("a", 201), strings.Repeat("a", 200)},
		{strings.Repeat("a", 200), strings.Repeat("a", 201)},
		{strings.Repeat("a", 201), strings.Repeat("a", 201)},
		{strings.Repeat("a", 201), ""},
		{"", strings.Repeat("a", 201)},
		{"a", strings.Repeat("b", 201)},
		{strings.Repeat("a", 1<<20), "a"},
		{"a", strings.Repeat("a", 1<<20)},
	} {
		if got, looks, ok := impl.FindAll(c.s, c.p); len(got) != 0 || looks != 0 || ok {
			t.Errorf("FindAll of %d and %d bytes = %v, %d, %v", len(c.s), len(c.p), got, looks, ok)
		}
	}
}

func TestFindAllOfEachByte(t *testing.T) {
	for c := range 256 {
		b, other := string([]byte{byte(c)}), string([]byte{byte(c + 128)})
		if got, looks, ok := impl.FindAll(b+other+b, b); !slices.Equal(got, []int{0, 2}) || looks != 3 || !ok {
			t.Errorf("FindAll of %q = %v, %d, %v", b, got, looks, ok)
		}
		placed(t, b+b+other+b+other, b+other)
	}
}

// States.

// stated holds BuildStates against the texts that the states stand for, and what the document says of each state.
func stated(t *testing.T, words []string) []impl.State {
	t.Helper()
	l, ok := impl.BuildStates(words)
	if want := wantStates(words); !sameStates(l, want) || !ok {
		t.Errorf("BuildStates(%q) = %v, %v; want %v", words, l, ok, want)
		return nil
	}
	return l
}

func TestBuildStatesTable(t *testing.T) {
	for _, c := range []struct {
		words []string
		want  string
	}{
		{nil, "-1 . 0"},
		{[]string{"a"}, "-1 . 0,0 a 0 0"},
		{[]string{"aaa"}, "-1 . 0,0 a 0,1 a 1,2 a 2 0"},
		{heSheHers(), "-1 . 0,0 h 0,1 e 0 0,0 s 0,3 h 1,4 e 2 0 1,2 r 0,6 s 3 2"},
		{[]string{"he", "she", "his", "hers"}, "-1 . 0,0 h 0,1 e 0 0,0 s 0,3 h 1,4 e 2 0 1,1 i 0,6 s 3 2,2 r 0,8 s 3 3"},
		// Alike.
		{[]string{"a", "a"}, "-1 . 0,0 a 0 0 1"},
		{[]string{"ab", "b", "ab"}, "-1 . 0,0 a 0,1 b 3 0 1 2,0 b 0 1"},
		// One in another one: at its beginning, in the middle, at its end.
		{[]string{"abc", "ab"}, "-1 . 0,0 a 0,1 b 0 1,2 c 0 0"},
		{[]string{"ab", "abc"}, "-1 . 0,0 a 0,1 b 0 0,2 c 0 1"},
		{[]string{"abc", "b"}, "-1 . 0,0 a 0,1 b 4 1,2 c 0 0,0 b 0 1"},
		{[]string{"abc", "c"}, "-1 . 0,0 a 0,1 b 0,2 c 4 0 1,0 c 0 1"},
		// They begin alike.
		{[]string{"ab", "ac", "abd"}, "-1 . 0,0 a 0,1 b 0 0,1 c 0 1,2 d 0 2"},
		// They end alike.
		{[]string{"ab", "cb", "b"}, "-1 . 0,0 a 0,1 b 5 0 2,0 c 0,3 b 5 1 2,0 b 0 2"},
		{[]string{"b", "ab"}, "-1 . 0,0 b 0 0,0 a 0,2 b 1 0 1"},
		{[]string{"abab", "bab", "ab"}, "-1 . 0,0 a 0,1 b 5 2,2 a 6,3 b 7 0 1 2,0 b 0,5 a 1,6 b 2 1 2"},
		// The longest ending of abcd is that of a word that comes later.
		{[]string{"abcd", "d", "cd", "bcx"}, "-1 . 0,0 a 0,1 b 8,2 c 9,3 d 7 0 1 2,0 d 0 1,0 c 0,6 d 5 1 2,0 b 0,8 c 6,9 x 0 3"},
		{[]string{"aab", "ab"}, "-1 . 0,0 a 0,1 a 1,2 b 4 0 1,1 b 0 1"},
	} {
		l, ok := impl.BuildStates(c.words)
		if want := states(c.want); !sameStates(l, want) || !ok || !sameStates(wantStates(c.words), want) {
			t.Errorf("BuildStates(%q) = %v, %v; want %v", c.words, l, ok, want)
		}
	}
	if l, ok := impl.BuildStates([]string{"\x00\xff", "\xff"}); !ok || !sameStates(l, []impl.State{{Up: -1}, {}, {Up: 1, Byte: 255, Fail: 3, Words: []int{0, 1}}, {Byte: 255, Words: []int{1}}}) {
		t.Errorf("BuildStates of bytes 0 and 255 = %v, %v", l, ok)
	}
}

func TestStepStateTable(t *testing.T) {
	for _, c := range []struct {
		state int
		b     byte
		want  int
	}{
		{0, 'h', 1}, {0, 's', 3}, {0, 'e', 0}, {0, 'x', 0}, {0, 0, 0}, {0, 255, 0},
		{1, 'e', 2}, {1, 'h', 1}, {1, 's', 3}, {1, 'x', 0},
		{2, 'r', 6}, {2, 's', 3}, {2, 'e', 0}, {2, 'h', 1},
		{3, 's', 3}, {3, 'h', 4}, {3, 'e', 0},
		{4, 'e', 5}, {4, 'h', 1}, {4, 's', 3}, {4, 'r', 0},
		{5, 'r', 6}, {5, 's', 3}, {5, 'x', 0}, {5, 'e', 0},
		{6, 's', 7}, {6, 'h', 1}, {6, 'r', 0},
		{7, 'h', 4}, {7, 's', 3}, {7, 'e', 0}, {7, 0, 0}, {7, 255, 0},
	} {
		if got, ok := impl.StepState(heSheHers(), c.state, c.b); got != c.want || !ok || wantStep(heSheHers(), c.state, c.b) != c.want {
			t.Errorf("StepState(%d, %q) = %d, %v; want %d", c.state, c.b, got, ok, c.want)
		}
	}
}

func TestFindWordsTable(t *testing.T) {
	for _, c := range []struct {
		s     string
		words []string
		want  string
	}{
		{"ushers", heSheHers(), "2 0,1 1,2 2"},
		{"", heSheHers(), ""},
		{"xyz", heSheHers(), ""},
		{"h", heSheHers(), ""},
		{"he", heSheHers(), "0 0"},
		{"ushers", nil, ""},
		{"", nil, ""},
		{"aaa", []string{"a"}, "0 0,1 0,2 0"},
		{"aaa", []string{"a", "aa"}, "0 0,1 0,0 1,2 0,1 1"},
		{"aaa", []string{"aa", "a"}, "0 1,0 0,1 1,1 0,2 1"},
		{"aa", []string{"a", "a"}, "0 0,0 1,1 0,1 1"},
		{"xab", []string{"ab", "b", "ab"}, "1 0,2 1,1 2"},
		{"abc", []string{"abc", "b"}, "1 1,0 0"},
		{"abc", []string{"b", "abc"}, "1 0,0 1"},
		{"abab", []string{"abab", "bab", "ab"}, "0 2,0 0,1 1,2 2"},
		{"ababab", []string{"abab"}, "0 0,2 0"},
		{"abcd", []string{"abcd", "d", "cd", "bcx"}, "0 0,3 1,2 2"},
		{"abcx", []string{"abcd", "d", "cd", "bcx"}, "1 3"},
		{"\x00\xff\xff", []string{"\x00\xff", "\xff"}, "0 0,1 1,2 1"},
	} {
		if got, ok := impl.FindWords(c.s, c.words); !slices.Equal(got, foundWords(c.want)) || !ok || !slices.Equal(wantFoundWords(c.s, c.words), foundWords(c.want)) {
			t.Errorf("FindWords(%q, %q) = %v, %v; want %v", c.s, c.words, got, ok, foundWords(c.want))
		}
	}
}

func TestLongestEndTable(t *testing.T) {
	for _, c := range []struct {
		words []string
		s     string
		want  int
	}{
		{heSheHers(), "", 0},
		{heSheHers(), "x", 0},
		{heSheHers(), "h", 1},
		{heSheHers(), "s", 1},
		{heSheHers(), "e", 0},
		{heSheHers(), "hh", 1},
		{heSheHers(), "he", 2},
		{heSheHers(), "her", 3},
		{heSheHers(), "xshe", 3},
		{heSheHers(), "xsher", 3},
		{heSheHers(), "ushers", 4},
		{heSheHers(), "ushersx", 0},
		{heSheHers(), "hersh", 2},
		{heSheHers(), "hershe", 3},
		{heSheHers(), "shes", 1},
		{nil, "", 0},
		{nil, "abc", 0},
		{[]string{"aaa"}, "aaaaa", 3},
		{[]string{"aaa"}, "aab", 0},
		{[]string{"aab"}, "aaa", 2},
		{[]string{"abab", "ba"}, "aba", 3},
		{[]string{"\x00\xff"}, "\xff\x00", 1},
	} {
		if got, ok := impl.LongestEnd(c.words, c.s); got != c.want || !ok || wantLongestEnd(c.words, c.s) != c.want {
			t.Errorf("LongestEnd(%q, %q) = %d, %v; want %d", c.words, c.s, got, ok, c.want)
		}
	}
}

// stepped goes from each state by each of the bytes.
func stepped(t *testing.T, words []string, bytes string) {
	t.Helper()
	beginnings := wantBeginnings(words)
	for state, text := range beginnings {
		for i := range len(bytes) {
			want := wantEnding(beginnings, text+bytes[i:i+1])
			if got, ok := impl.StepState(words, state, bytes[i]); got != want || !ok {
				t.Errorf("StepState(%q, %d, %q) = %d, %v; want %d", words, state, bytes[i], got, ok, want)
			}
		}
	}
}

// ended holds LongestEnd against a search by hand.
func ended(t *testing.T, words []string, s string) {
	t.Helper()
	if got, ok := impl.LongestEnd(words, s); got != wantLongestEnd(words, s) || !ok {
		t.Errorf("LongestEnd(%q, %q) = %d, %v; want %d", words, s, got, ok, wantLongestEnd(words, s))
	}
}

// toldByFindAll is all places of each word by itself, in the order of their ends, then of the words.
func toldByFindAll(t *testing.T, s string, words []string) []impl.Found {
	t.Helper()
	var l []impl.Found
	for no, word := range words {
		places, _, ok := impl.FindAll(s, word)
		if !ok {
			t.Errorf("FindAll(%q, %q) tells false", s, word)
		}
		for _, at := range places {
			l = append(l, impl.Found{At: at, Word: no})
		}
	}
	slices.SortStableFunc(l, func(a, b impl.Found) int { return a.At + len(words[a.Word]) - b.At - len(words[b.Word]) })
	return l
}

// toldByStates goes on by StepState byte by byte; at each end the state's Words stand, and its beginning is as long as
// LongestEnd tells.
func toldByStates(t *testing.T, s string, words []string) []impl.Found {
	t.Helper()
	made, _ := impl.BuildStates(words)
	var l []impl.Found
	state := 0
	for at := range len(s) {
		next, ok := impl.StepState(words, state, s[at])
		if !ok || next < 0 || next >= len(made) {
			t.Fatalf("StepState(%q, %d, %q) = %d, %v", words, state, s[at], next, ok)
		}
		state = next
		for _, no := range made[state].Words {
			l = append(l, impl.Found{At: at + 1 - len(words[no]), Word: no})
		}
	}
	long := 0
	for up := state; up > 0; up = made[up].Up {
		long++
	}
	if got, ok := impl.LongestEnd(words, s); got != long || !ok {
		t.Errorf("LongestEnd(%q, %q) = %d, %v; the state's beginning has %d bytes", words, s, got, ok, long)
	}
	return l
}

// wordsTold holds FindWords against a search by hand.
func wordsTold(t *testing.T, s string, words []string) []impl.Found {
	t.Helper()
	got, ok := impl.FindWords(s, words)
	if want := wantFoundWords(s, words); !slices.Equal(got, want) || !ok {
		t.Errorf("FindWords(%q, %q) = %v, %v; want %v", s, words, got, ok, want)
	}
	return got
}

// allOfThem is a text in which each text of six of the letters a and b stands.
func allOfThem() string {
	s := "aaaaaa"
	for isMore := true; isMore; {
		isMore = false
		for _, c := range []string{"b", "a"} {
			if next := s[len(s)-5:] + c; !strings.Contains(s, next) {
				s, isMore = s+c, true
				break
			}
		}
	}
	return s
}

func TestAllOfThemStandThere(t *testing.T) {
	for _, p := range textsOver("ab", 1, 6) {
		if !strings.Contains(allOfThem(), p) {
			t.Error("no test: it does not stand there:", p)
		}
	}
}

func TestStatesOfAllShortWords(t *testing.T) {
	lists := [][]string{nil}
	short := textsOver("ab", 1, 3)
	for _, one := range short {
		lists = append(lists, []string{one})
		for _, two := range short {
			lists = append(lists, []string{one, two})
			for _, three := range short {
				lists = append(lists, []string{one, two, three})
			}
		}
	}
	for _, one := range textsOver("ab", 1, 5) {
		for _, two := range textsOver("ab", 4, 5) {
			lists = append(lists, []string{one, two})
		}
	}
	text := allOfThem()
	for _, words := range lists {
		stated(t, words)
		stepped(t, words, "abc")
		wordsTold(t, text, words)
		for end := range 24 {
			ended(t, words, text[:end])
		}
	}
	if len(lists) != 1+14+14*14+14*14*14+62*48 {
		t.Error("no test: so many lists:", len(lists))
	}
}

func TestStatesOfShortWordsOfThreeLetters(t *testing.T) {
	short := textsOver("abc", 1, 3)
	r := rand.New(rand.NewSource(3))
	for _, one := range short {
		for _, two := range short {
			words := []string{one, two}
			stated(t, words)
			stepped(t, words, "abcd")
			s := randomAround(r, "abc", words)
			wordsTold(t, s, words)
			ended(t, words, s)
		}
	}
}

func TestStatesOfRandomWords(t *testing.T) {
	r := rand.New(rand.NewSource(4))
	many, deep, several, alike := 0, 0, 0, 0
	for range 1200 {
		letters := randomLetters(r)
		words := randomWords(r, letters)
		made := stated(t, words)
		stepped(t, words, letters[:min(len(letters), 3)]+"z")
		s := randomAround(r, letters, words)
		found := wordsTold(t, s, words)
		if byEach := toldByFindAll(t, s, words); !slices.Equal(found, byEach) {
			t.Errorf("FindWords(%q, %q) = %v; FindAll of each tells %v", s, words, found, byEach)
		}
		if byStates := toldByStates(t, s, words); !slices.Equal(found, byStates) {
			t.Errorf("FindWords(%q, %q) = %v; the states tell %v", s, words, found, byStates)
		}
		for range 5 {
			ended(t, words, s[:r.Intn(len(s)+1)])
		}
		if len(words) == 8 {
			many++
		}
		for _, state := range made {
			if state.Fail > 0 && made[state.Fail].Fail > 0 {
				deep++
				break
			}
		}
		for _, state := range made {
			if len(state.Words) > 2 {
				several++
				break
			}
		}
		if sorted := slices.Compact(slices.Sorted(slices.Values(words))); len(sorted) < len(words) {
			alike++
		}
	}
	if many < 50 || deep < 300 || several < 100 || alike < 100 {
		t.Error("no test: so few have eight words, endings of endings, several words at a state, words alike:", many, deep, several, alike)
	}
}

// In whatever order the words are given, the same words stand in the same places.
func TestFindWordsInOtherOrders(t *testing.T) {
	r := rand.New(rand.NewSource(5))
	for range 300 {
		words := randomWords(r, "ab")
		s := randomAround(r, "ab", words)
		order := r.Perm(len(words))
		other := make([]string, len(words))
		for i, no := range order {
			other[i] = words[no]
		}
		var found []impl.Found
		for _, f := range wordsTold(t, s, other) {
			found = append(found, impl.Found{At: f.At, Word: order[f.Word]})
		}
		slices.SortStableFunc(found, func(a, b impl.Found) int {
			if d := a.At + len(words[a.Word]) - b.At - len(words[b.Word]); d != 0 {
				return d
			}
			return a.Word - b.Word
		})
		if got := wordsTold(t, s, words); !slices.Equal(got, found) {
			t.Errorf("FindWords(%q, %q) = %v; in another order %v", s, words, got, found)
		}
	}
}

// What stands there hangs on no words beside it.
func TestFindWordsOfFewerWords(t *testing.T) {
	r := rand.New(rand.NewSource(6))
	for range 300 {
		words := randomWords(r, "abc")
		s := randomAround(r, "abc", words)
		found := wordsTold(t, s, words)
		for many := range len(words) + 1 {
			fewer := slices.DeleteFunc(slices.Clone(found), func(f impl.Found) bool { return f.Word >= many })
			if got := wordsTold(t, s, words[:many]); !slices.Equal(got, fewer) {
				t.Errorf("FindWords(%q, %q) = %v; want %v", s, words[:many], got, fewer)
			}
		}
	}
}

// Edges.

// greatestWords are MaxWords words of 20 bytes, no two of which begin alike.
func greatestWords() []string {
	var words []string
	for i := range impl.MaxWords {
		words = append(words, strings.Repeat(string(rune('a'+i)), 20))
	}
	return words
}

func TestStatesOfTheGreatestWords(t *testing.T) {
	if made := stated(t, greatestWords()); len(made) != 161 {
		t.Error("so many states:", len(made))
	}
	stepped(t, greatestWords(), "ahi\x00")
	var ones []string
	for range impl.MaxWords {
		ones = append(ones, strings.Repeat("a", 20))
	}
	if made := stated(t, ones); len(made) != 21 || len(made[20].Words) != 8 {
		t.Error("states of words alike:", made)
	}
	if found := wordsTold(t, strings.Repeat("a", 200), ones); len(found) != 8*181 {
		t.Error("so many places:", len(found))
	}
	var stairs []string
	for long := range impl.MaxWords {
		stairs = append(stairs, strings.Repeat("a", 20-long))
	}
	stated(t, stairs)
	stepped(t, stairs, "ab")
	if found := wordsTold(t, strings.Repeat("a", 200), stairs); len(found) != 8*200-19-18-17-16-15-14-13-12 {
		t.Error("so many places:", len(found))
	}
	if found := wordsTold(t, strings.Repeat("a", 200), []string{"a", "a", "a", "a", "a", "a", "a", "a"}); len(found) != 1600 {
		t.Error("so many places:", len(found))
	}
	for _, s := range runsOfMaxText() {
		words := []string{s[:20], s[1:21], s[180:], s[100:119], s[:1], s[199:], s[50:53], s[60:70]}
		stated(t, words)
		stepped(t, words, "abz")
		if found := wordsTold(t, s, words); !slices.Equal(found, toldByStates(t, s, words)) || !slices.Equal(found, toldByFindAll(t, s, words)) {
			t.Errorf("%q in %q: told otherwise", words, s)
		}
	}
}

// A word of each length, and each number of words.
func TestWordsOfEachLength(t *testing.T) {
	for long := range 25 {
		for many := range 12 {
			var words []string
			for i := range many {
				words = append(words, strings.Repeat(string(rune('a'+i%3)), long))
			}
			good := many == 0 || many <= 8 && long >= 1 && long <= 20
			asGood(t, strconv.Itoa(many)+" words of "+strconv.Itoa(long)+" bytes", words, good)
		}
	}
}

// asGood asks all four functions; where the words are wrong each gives its zero answer.
func asGood(t *testing.T, name string, words []string, good bool) {
	t.Helper()
	if wantGoodWords(words) != good {
		t.Errorf("no test: %s: good is not %v", name, good)
	}
	made, ok := impl.BuildStates(words)
	if ok != good || !ok && len(made) != 0 || ok && !sameStates(made, wantStates(words)) {
		t.Errorf("%s: BuildStates = %v, %v", name, made, ok)
	}
	found, ok := impl.FindWords("aabbcc", words)
	if ok != good || !ok && len(found) != 0 || ok && !slices.Equal(found, wantFoundWords("aabbcc", words)) {
		t.Errorf("%s: FindWords = %v, %v", name, found, ok)
	}
	state, ok := impl.StepState(words, 0, 'a')
	if ok != good || !ok && state != 0 || ok && state != wantStep(words, 0, 'a') {
		t.Errorf("%s: StepState = %v, %v", name, state, ok)
	}
	long, ok := impl.LongestEnd(words, "bbaa")
	if ok != good || !ok && long != 0 || ok && long != wantLongestEnd(words, "bbaa") {
		t.Errorf("%s: LongestEnd = %v, %v", name, long, ok)
	}
}

func wrongWords() map[string][]string {
	l := map[string][]string{
		"an empty word alone":   {""},
		"a word of 21 bytes":    {strings.Repeat("a", 21)},
		"a word of very many":   {strings.Repeat("a", 1<<20)},
		"nine words":            {"a", "b", "c", "d", "e", "f", "g", "h", "i"},
		"nine words alike":      {"a", "a", "a", "a", "a", "a", "a", "a", "a"},
		"nine empty words":      make([]string, 9),
		"eight empty words":     make([]string, 8),
		"very many empty words": make([]string, 1<<16),
		"a text of MaxText":     {strings.Repeat("a", 200)},
		"the greatest and one":  append(greatestWords(), "a"),
	}
	for many := 2; many <= 8; many++ {
		for at := range many {
			for name, wrong := range map[string]string{"an empty word": "", "a word of 21 bytes": strings.Repeat("ab", 10) + "a"} {
				words := greatestWords()[:many]
				words[at] = wrong
				l[name+" at "+strconv.Itoa(at)+" of "+strconv.Itoa(many)] = words
			}
		}
	}
	return l
}

func TestWrongWords(t *testing.T) {
	if len(wrongWords()) != 10+2*(2+3+4+5+6+7+8) {
		t.Error("no test: so many are wrong:", len(wrongWords()))
	}
	for name, words := range wrongWords() {
		asGood(t, name, words, false)
	}
	for name, words := range map[string][]string{
		"none": nil, "none, not nil": {}, "one byte": {"a"}, "a byte 0": {"\x00"}, "a byte 255": {"\xff"}, "20 bytes": {strings.Repeat("a", 20)},
		"eight words": {"a", "b", "c", "d", "e", "f", "g", "h"}, "the greatest": greatestWords(), "blanks": {" ", "\n"}, "bytes above 127": {"ä", "\x80\x81"},
	} {
		asGood(t, name, words, true)
	}
}

func TestStepStateAtEachState(t *testing.T) {
	for _, words := range [][]string{nil, {"a"}, heSheHers(), greatestWords(), {"a", "a"}, {"\x00\xff"}} {
		many := len(wantBeginnings(words))
		for state := -3; state < many+3; state++ {
			good := state >= 0 && state < many
			for c := 0; c < 256; c += 1 + many/40 {
				want := 0
				if good {
					want = wantStep(words, state, byte(c))
				}
				if got, ok := impl.StepState(words, state, byte(c)); got != want || ok != good {
					t.Errorf("StepState(%q, %d, %d) = %d, %v; want %d, %v", words, state, c, got, ok, want, good)
				}
			}
		}
		for _, state := range []int{math.MinInt, math.MaxInt, math.MinInt32, math.MaxInt32, 161, 200, 1 << 40} {
			if got, ok := impl.StepState(words, state, 'a'); got != 0 || ok {
				t.Errorf("StepState(%q, %d, 'a') = %d, %v", words, state, got, ok)
			}
		}
	}
}

func TestWordsInTextsOfEachLength(t *testing.T) {
	words := []string{"a", "aa", "b", strings.Repeat("a", 20)}
	for long := range 230 {
		s := strings.Repeat("a", long)
		good := long <= 200
		found, ok := impl.FindWords(s, words)
		if ok != good || !ok && len(found) != 0 || ok && !slices.Equal(found, wantFoundWords(s, words)) {
			t.Errorf("FindWords of %d bytes: %d places, %v", long, len(found), ok)
		}
		end, ok := impl.LongestEnd(words, s)
		if ok != good || ok && end != min(long, 20) || !ok && end != 0 {
			t.Errorf("LongestEnd of %d bytes = %d, %v", long, end, ok)
		}
		// No words at all are words, too.
		found, ok = impl.FindWords(s, nil)
		if ok != good || len(found) != 0 {
			t.Errorf("FindWords of no words in %d bytes = %v, %v", long, found, ok)
		}
		end, ok = impl.LongestEnd(nil, s)
		if ok != good || end != 0 {
			t.Errorf("LongestEnd of no words in %d bytes = %d, %v", long, end, ok)
		}
	}
}

func TestWordsOfEachByte(t *testing.T) {
	for c := range 256 {
		b, other := string([]byte{byte(c)}), string([]byte{byte(c + 128)})
		words := []string{b + other, other, b}
		stated(t, words)
		if found := wordsTold(t, b+other+other, words); !slices.Equal(found, foundWords("0 2,0 0,1 1,2 1")) {
			t.Errorf("%q: FindWords = %v", words, found)
		}
		if made, ok := impl.BuildStates(words); !ok || len(made) != 4 || made[1].Byte != byte(c) || made[2].Byte != byte(c+128) || made[2].Fail != 3 {
			t.Errorf("%q: BuildStates = %v, %v", words, made, ok)
		}
		ended(t, words, other+b)
	}
}
