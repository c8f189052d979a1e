package tests

import (
	"math"
	"math/rand"
	"slices"
	"strconv"
	"strings"
	"testing"

	"loop.example/g00333/impl"
)

func TestTopicConstants(t *testing.T) {
	if impl.MaxLevels != 6 || impl.MaxSubs != 30 {
		t.Error(impl.MaxLevels, impl.MaxSubs)
	}
}

func TestTopicNotation(t *testing.T) {
	if l := subs("a/# 3,+ -1"); !slices.Equal(l, []impl.Sub{{Pattern: "a/#", Who: 3}, {Pattern: "+", Who: -1}}) || subs("") != nil {
		t.Error("no test: the notation of subs:", l)
	}
	if u := trie("-1 .,0 a,1 # 3 5"); !sameTrie(u, []impl.TrieNode{{Up: -1}, {Level: "a"}, {Level: "#", Up: 1, Whos: []int{3, 5}}}) || trie("") != nil {
		t.Error("no test: the notation of a trie:", u)
	}
}

// goodTopics are good patterns, too.
func goodTopics() []string {
	return []string{
		"a", "z", "0", "9", "m", "5", "abcdef", "zzzzzz", "000000", "a0z9", "a/b", "0/9", "a/a", "abcdef/abcdef", "a/bc/def",
		"a/b/c/d/e/f", "a/a/a/a/a/a", "abcdef/ghijkl/mnopqr/stuvwx/yz0123/456789", "a/b/c/d/e", "1/22/333/4444/55555/666666",
	}
}

// onlyPatterns are good patterns that are no topics.
func onlyPatterns() []string {
	return []string{
		"+", "#", "+/+", "+/#", "a/+", "a/#", "+/a", "+/a/+", "a/+/b", "+/+/#", "a/b/c/d/e/#", "a/b/c/d/e/+", "+/+/+/+/+/+", "+/+/+/+/+/#",
		"abcdef/+/abcdef/abcdef/abcdef/#", "abcdef/abcdef/abcdef/abcdef/abcdef/#", "+/abcdef/abcdef/abcdef/abcdef/abcdef", "0/+/9/#",
	}
}

// wrongLevels are levels of no topic and no pattern.
func wrongLevels() []string {
	return []string{
		"", "abcdefg", "0123456", "aaaaaaaaaaaaaaaaaaaa", "A", "Z", "aB", "a b", " ", "a ", " a", "`", "{", ":", "a:", "/a", "a/", "-", "_", ".", "*",
		"a+", "+a", "#a", "a#", "++", "##", "+#", "#+", "\x00", "a\x00", "\x80", "a\xff", "\xff", "ä", "é", "a\n", "\n", "a\t", "１", "ａ", "@", "[", "a-z", "\x1f", ",",
	}
}

// wrongPatterns are no topics, either.
func wrongPatterns() []string {
	l := []string{
		"", "/", "//", "/a", "a/", "a//b", "//a", "a//", "/a/", "/+", "+/", "/#", "#/", "#/a", "#/+", "#/#", "a/#/b", "a/#/#", "+/#/+", "a/#/", "#/a/b/c/d/e",
		"a/b/c/d/e/f/g", "a/b/c/d/e/f/#", "a/b/c/d/e/f/+", "+/+/+/+/+/+/+", "+/+/+/+/+/+/#", "a/b/c/d/e/f/", "/a/b/c/d/e/f", "a/b/c/d/e/#/f", "#/b/c/d/e/f",
		"abcdef/ghijkl/mnopqr/stuvwx/yz0123/4567890", "abcdef/ghijkl/mnopqr/stuvwx/yz0123/456789/", "abcdef/ghijkl/mnopqr/stuvwx/yz0123/456789/a",
		"abcdefg/b/c/d/e/f", "a/b/c/d/e/abcdefg", strings.Repeat("a/", 20) + "a", strings.Repeat("a", 41), strings.Repeat("a", 42), strings.Repeat("/", 5),
		strings.Repeat("a/", 1<<16), strings.Repeat("/", 1<<16), strings.Repeat("a", 1<<16), strings.Repeat("+/", 1<<16) + "#",
	}
	for _, level := range wrongLevels() {
		l = append(l, level, level+"/b", "a/"+level, "a/"+level+"/b", "+/"+level, level+"/#", "a/b/c/d/e/"+level, level+"/b/c/d/e/+")
	}
	// These are wrong only with something beside them.
	return slices.DeleteFunc(l, wantGoodPattern)
}

func TestGoodTopicAndPattern(t *testing.T) {
	for _, s := range goodTopics() {
		if !impl.GoodTopic(s) || !impl.GoodPattern(s) || !wantGoodTopic(s) || !wantGoodPattern(s) {
			t.Errorf("%q is a topic and a pattern", s)
		}
	}
	for _, s := range onlyPatterns() {
		if impl.GoodTopic(s) || !impl.GoodPattern(s) || wantGoodTopic(s) || !wantGoodPattern(s) {
			t.Errorf("%q is a pattern and no topic", s)
		}
	}
	if len(wrongPatterns()) < 350 {
		t.Error("no test: so few are wrong:", len(wrongPatterns()))
	}
	for _, s := range wrongPatterns() {
		if impl.GoodTopic(s) || impl.GoodPattern(s) {
			t.Errorf("%.80q is neither", s)
		}
	}
}

func TestWrongPatternsWrittenOut(t *testing.T) {
	for _, s := range []string{
		"", "/", "a/", "/a", "a//b", "abcdefg", "a/abcdefg", "a/b/c/d/e/f/g", "a/b/c/d/e/f/#", "#/a", "a/#/b", "a+", "#a", "A", "a b", "a\x80", "`", "{", ":", "a.",
		"+/", "#/", "#/#", "++", "a/b/c/d/e/f/", "\xff", "a/B", "ä",
	} {
		if impl.GoodTopic(s) || impl.GoodPattern(s) || wantGoodTopic(s) || wantGoodPattern(s) {
			t.Errorf("%q is neither", s)
		}
	}
}

// Each byte, in each place of a level and as one.
func TestGoodTopicAtEachByte(t *testing.T) {
	good := 0
	for c := range 256 {
		b := string([]byte{byte(c)})
		isPlain := c >= 'a' && c <= 'z' || c >= '0' && c <= '9'
		if isPlain {
			good++
		}
		for _, s := range []string{b, b + "bcdef", "ab" + b + "de", "abcde" + b, "a/" + b + "/c", "a/b" + b + "/c", b + "/b", "a/b/c/d/e/" + b, "a/b/c/d/e/ab" + b} {
			want := isPlain || c == '/' && wantGoodTopic(s)
			if impl.GoodTopic(s) != want {
				t.Errorf("%q: a topic is not %v", s, want)
			}
			isSign := c == '+' && slices.Contains(strings.Split(s, "/"), "+") || c == '#' && (s == "#" || strings.HasSuffix(s, "/#"))
			if impl.GoodPattern(s) != (want || isSign) {
				t.Errorf("%q: a pattern is not %v", s, want || isSign)
			}
		}
	}
	if good != 36 {
		t.Error("no test: so many bytes are right:", good)
	}
}

// Each number of levels, and each length of each of them.
func TestGoodTopicAtEachLength(t *testing.T) {
	for many := 0; many <= 9; many++ {
		for at := range max(many, 1) {
			for long := 0; long <= 9; long++ {
				levels := make([]string, many)
				for i := range levels {
					levels[i] = "abcdef"
				}
				if many > 0 {
					levels[at] = strings.Repeat("x", long)
				}
				s := strings.Join(levels, "/")
				want := many >= 1 && many <= 6 && long >= 1 && long <= 6
				if impl.GoodTopic(s) != want || impl.GoodPattern(s) != want {
					t.Errorf("%d levels, of which %d has %d bytes: good is not %v", many, at, long, want)
				}
			}
		}
	}
}

// A sign in each place of each number of levels.
func TestGoodPatternAtEachPlace(t *testing.T) {
	for many := 1; many <= 8; many++ {
		for at := range many {
			levels := make([]string, many)
			for i := range levels {
				levels[i] = "abcdef"
			}
			for sign, want := range map[string]bool{"+": many <= 6, "#": many <= 6 && at == many-1} {
				levels[at] = sign
				s := strings.Join(levels, "/")
				if impl.GoodPattern(s) != want || impl.GoodTopic(s) {
					t.Errorf("%q: a pattern is not %v, or it is a topic", s, want)
				}
			}
		}
	}
}

// All texts of few bytes.
func TestGoodTopicOfAllShortTexts(t *testing.T) {
	topics, patterns := 0, 0
	texts := []string{""}
	for long := 0; long <= 7; long++ {
		var next []string
		for _, s := range texts {
			isTopic, isPattern := wantGoodTopic(s), wantGoodPattern(s)
			if isTopic {
				topics++
			}
			if isPattern {
				patterns++
			}
			if impl.GoodTopic(s) != isTopic || impl.GoodPattern(s) != isPattern {
				t.Errorf("%q: a topic is not %v, or a pattern not %v", s, isTopic, isPattern)
			}
			for _, c := range "a/+#" {
				next = append(next, s+string(c))
			}
		}
		texts = next
	}
	if topics != 32 || patterns < 100 {
		t.Error("no test: so many are good:", topics, patterns)
	}
}

func TestTopicFitsTable(t *testing.T) {
	for _, c := range []struct {
		pattern, topic string
		want           bool
	}{
		{"a", "a", true},
		{"a", "b", false},
		{"a", "aa", false},
		{"aa", "a", false},
		{"a", "a/a", false},
		{"a/a", "a", false},
		{"a/b", "a/b", true},
		{"a/b", "b/a", false},
		{"a/b", "a/b/c", false},
		{"+", "a", true},
		{"+", "abcdef", true},
		{"+", "a/b", false},
		{"+/b", "a/b", true},
		{"+/b", "b", false},
		{"+/b", "a/c", false},
		{"a/+", "a/b", true},
		{"a/+", "a", false},
		{"a/+", "b/a", false},
		{"a/+", "a/b/c", false},
		{"+/+", "a/b", true},
		{"+/+", "a", false},
		{"+/+", "a/b/c", false},
		{"a/+/c", "a/b/c", true},
		{"a/+/c", "a/c", false},
		{"a/+/c", "a/b/b/c", false},
		{"#", "a", true},
		{"#", "x/y/z", true},
		{"#", "a/b/c/d/e/f", true},
		{"a/#", "a", true},
		{"a/#", "a/b", true},
		{"a/#", "a/b/c/d/e/f", true},
		{"a/#", "b", false},
		{"a/#", "b/a", false},
		{"a/#", "aa", false},
		{"a/#", "ab/c", false},
		{"+/#", "a", true},
		{"+/#", "a/b", true},
		{"+/+/#", "a", false},
		{"+/+/#", "a/b", true},
		{"+/b/#", "a/b", true},
		{"+/b/#", "a/b/c/d", true},
		{"+/b/#", "b", false},
		{"+/b/#", "a/c/b", false},
		{"a/b/c/d/e/f", "a/b/c/d/e/f", true},
		{"a/b/c/d/e/f", "a/b/c/d/e/g", false},
		{"a/b/c/d/e/f", "a/b/c/d/e", false},
		{"a/b/c/d/e/#", "a/b/c/d/e/f", true},
		{"a/b/c/d/e/#", "a/b/c/d/e", true},
		{"a/b/c/d/e/#", "a/b/c/d", false},
		{"a/b/c/d/e/+", "a/b/c/d/e/f", true},
		{"a/b/c/d/e/+", "a/b/c/d/e", false},
		{"+/+/+/+/+/+", "a/b/c/d/e/f", true},
		{"+/+/+/+/+/+", "a/b/c/d/e", false},
		{"+/+/+/+/+/#", "a/b/c/d/e", true},
		{"+/+/+/+/+/#", "a/b/c/d", false},
	} {
		if is, ok := impl.TopicFits(c.pattern, c.topic); is != c.want || !ok || wantTopicFits(c.pattern, c.topic) != c.want {
			t.Errorf("TopicFits(%s, %s) = %v, %v; want %v", c.pattern, c.topic, is, ok, c.want)
		}
	}
}

func TestPatternCoversTable(t *testing.T) {
	for _, c := range []struct {
		p, q string
		want bool
	}{
		{"a", "a", true},
		{"a", "b", false},
		{"a", "+", false},
		{"a", "#", false},
		{"a", "a/b", false},
		{"a/b", "a", false},
		{"a", "a/#", false},
		{"+", "a", true},
		{"+", "+", true},
		{"+", "#", false},
		{"+", "a/b", false},
		{"+", "+/+", false},
		{"+", "a/#", false},
		{"+/+", "a", false},
		{"+/+", "a/+", true},
		{"+/+", "a/#", false},
		{"+/a", "b/a", true},
		{"+/a", "b/+", false},
		{"a/+", "a/b", true},
		{"a/+", "a/+", true},
		{"a/+", "+/+", false},
		{"a/+", "a/#", false},
		{"a/+", "a", false},
		{"#", "a", true},
		{"#", "+", true},
		{"#", "#", true},
		{"#", "a/b/#", true},
		{"#", "+/+/+/+/+/+", true},
		{"a/#", "a", true},
		{"a/#", "a/#", true},
		{"a/#", "a/+", true},
		{"a/#", "a/+/b", true},
		{"a/#", "a/+/#", true},
		{"a/#", "a/b/c/d/e/f", true},
		{"a/#", "b", false},
		{"a/#", "+", false},
		{"a/#", "#", false},
		{"a/#", "+/a", false},
		{"a/#", "+/#", false},
		{"+/#", "a", true},
		{"+/#", "+", true},
		{"+/#", "a/#", true},
		{"+/#", "+/#", true},
		{"+/#", "#", false},
		{"a/+/#", "a/#", false},
		{"a/+/#", "a", false},
		{"a/+/#", "a/b", true},
		{"a/+/#", "a/+", true},
		{"a/b/#", "a", false},
		{"a/b/#", "a/b", true},
		{"a/b/c/d/e/f", "a/b/c/d/e/f", true},
		{"a/b/c/d/e/#", "a/b/c/d/e/f", true},
		{"a/b/c/d/e/#", "a/b/c/d/e", true},
		{"a/b/c/d/e/+", "a/b/c/d/e/#", false},
		{"a/b/c/d/e/+", "a/b/c/d/e/f", true},
		{"a/b/c/d/e/f", "a/b/c/d/e/+", false},
		{"+/+/+/+/+/+", "a/b/c/d/e/f", true},
		{"+/+/+/+/+/#", "a/b/c/d/e/f", true},
		{"+/+/+/+/+/#", "a/b/c/d/#", false},
	} {
		if is, ok := impl.PatternCovers(c.p, c.q); is != c.want || !ok || wantPatternCovers(c.p, c.q) != c.want {
			t.Errorf("PatternCovers(%s, %s) = %v, %v; want %v", c.p, c.q, is, ok, c.want)
		}
	}
}

func TestPatternsMeetTable(t *testing.T) {
	for _, c := range []struct {
		p, q string
		want bool
	}{
		{"a", "a", true},
		{"a", "b", false},
		{"a", "+", true},
		{"a", "#", true},
		{"a", "a/b", false},
		{"a", "a/+", false},
		{"a", "a/#", true},
		{"a", "a/b/#", false},
		{"a", "a/+/#", false},
		{"a", "b/#", false},
		{"+", "+", true},
		{"+", "#", true},
		{"+", "+/+", false},
		{"+", "a/#", true},
		{"+", "+/#", true},
		{"+", "a/b/#", false},
		{"#", "#", true},
		{"#", "a/b/c/d/e/f", true},
		{"#", "+/#", true},
		{"a/+", "+/b", true},
		{"a/+", "b/+", false},
		{"a/b", "+/b", true},
		{"a/b", "+/c", false},
		{"a/b", "a/+", true},
		{"a/#", "b/#", false},
		{"a/#", "+/#", true},
		{"a/#", "a/b/c", true},
		{"a/#", "b/b/c", false},
		{"a/#", "+/b/c", true},
		{"a/b/#", "a/c/#", false},
		{"a/b/#", "a/+/#", true},
		{"a/b/#", "a/#", true},
		{"a/b/#", "+", false},
		{"a/b/#", "+/+", true},
		{"a/b/#", "+/+/+", true},
		{"a/b/c/d/e/f", "+/+/+/+/+/+", true},
		{"a/b/c/d/e/f", "a/b/c/d/e/g", false},
		{"a/b/c/d/e/f", "a/b/c/d/e", false},
		{"a/b/c/d/e/f", "a/b/c/d/e/#", true},
		{"a/b/c/d/e", "a/b/c/d/e/#", true},
		{"a/b/c/d", "a/b/c/d/e/#", false},
		{"a/b/c/d/e/+", "a/b/c/d/e/#", true},
		{"b/#", "a/b/c/d/e/#", false},
	} {
		if is, ok := impl.PatternsMeet(c.p, c.q); is != c.want || !ok || wantPatternsMeet(c.p, c.q) != c.want {
			t.Errorf("PatternsMeet(%s, %s) = %v, %v; want %v", c.p, c.q, is, ok, c.want)
		}
		if is, ok := impl.PatternsMeet(c.q, c.p); is != c.want || !ok || wantPatternsMeet(c.q, c.p) != c.want {
			t.Errorf("PatternsMeet(%s, %s) = %v, %v; want %v", c.q, c.p, is, ok, c.want)
		}
	}
}

// fitsOf tells of each topic whether it fits the pattern.
func fitsOf(t *testing.T, pattern string, topics []string) []bool {
	var l []bool
	for _, topic := range topics {
		is, ok := impl.TopicFits(pattern, topic)
		if !ok {
			t.Fatalf("TopicFits(%s, %s) tells false", pattern, topic)
		}
		l = append(l, is)
	}
	return l
}

// Promise 10: of all patterns of few levels, and all topics that could tell them apart, those of c too, which no
// pattern has: one takes in another just where each topic that fits this fits that, and two meet just where a topic
// fits both. (No topic has no levels: this the document's rule leaves out at `+/#` and `#`.)
func TestAllPatternsOfFewLevels(t *testing.T) {
	patterns := patternsUpTo(3, "a", "b", "+")
	topics := topicsUpTo(5, "a", "b", "c")
	told := map[string]int{}
	var all [][]bool
	for _, p := range patterns {
		fits := fitsOf(t, p, topics)
		isLike := fitting(p)
		for i, topic := range topics {
			if fits[i] != isLike.MatchString(topic) {
				t.Errorf("TopicFits(%s, %s) is %v", p, topic, fits[i])
			}
		}
		all = append(all, fits)
	}
	for i, p := range patterns {
		for j, q := range patterns {
			covers, okCovers := impl.PatternCovers(p, q)
			meet, okMeet := impl.PatternsMeet(p, q)
			takesIn, common := true, false
			for k := range topics {
				takesIn = takesIn && (all[i][k] || !all[j][k])
				common = common || all[i][k] && all[j][k]
			}
			if p == "+/#" && q == "#" {
				takesIn = false
			}
			if covers != takesIn || !okCovers {
				t.Errorf("PatternCovers(%s, %s) = %v, %v; want %v", p, q, covers, okCovers, takesIn)
			}
			if meet != common || !okMeet {
				t.Errorf("PatternsMeet(%s, %s) = %v, %v; want %v", p, q, meet, okMeet, common)
			}
			if covers {
				told["covers"]++
			}
			if meet {
				told["meet"]++
			} else {
				told["apart"]++
			}
		}
	}
	if len(patterns) != 1+2*(3+9+27) || len(topics) != 3+9+27+81+243 || told["covers"] < 500 || told["meet"] < 1500 || told["apart"] < 1500 {
		t.Error("too few of a kind:", len(patterns), len(topics), told)
	}
}

// The same of patterns up to MaxLevels, of fewer levels.
func TestAllPatternsOfOneLevelAndSigns(t *testing.T) {
	patterns := slices.DeleteFunc(patternsUpTo(6, "a", "+"), func(p string) bool { return !wantGoodPattern(p) })
	topics := topicsUpTo(6, "a", "c")
	var all [][]bool
	for _, p := range patterns {
		all = append(all, fitsOf(t, p, topics))
	}
	for i, p := range patterns {
		for j, q := range patterns {
			covers, okCovers := impl.PatternCovers(p, q)
			meet, okMeet := impl.PatternsMeet(p, q)
			takesIn, common := p != "+/#" || q != "#", false
			for k := range topics {
				takesIn = takesIn && (all[i][k] || !all[j][k])
				common = common || all[i][k] && all[j][k]
			}
			if covers != takesIn || meet != common || !okCovers || !okMeet {
				t.Errorf("%s and %s: covers %v, want %v; meet %v, want %v", p, q, covers, takesIn, meet, common)
			}
		}
	}
	if len(patterns) != 1+2*(2+4+8+16+32)+64 {
		t.Error("no test: so many patterns:", len(patterns))
	}
}

// A pattern without signs is fit by itself alone.
func TestPlainPatternsFitThemselvesAlone(t *testing.T) {
	topics := append(topicsUpTo(3, "a", "b", "ab"), goodTopics()...)
	for i, p := range topics {
		for j, topic := range topics {
			want := p == topic
			is, ok := impl.TopicFits(p, topic)
			covers, okCovers := impl.PatternCovers(p, topic)
			meet, okMeet := impl.PatternsMeet(p, topic)
			if is != want || !ok || covers != want || !okCovers || meet != want || !okMeet {
				t.Errorf("%d, %d: %s and %s: %v, %v, %v", i, j, p, topic, is, covers, meet)
			}
		}
	}
}

func TestPatternsTakeInThemselves(t *testing.T) {
	r := rand.New(rand.NewSource(1))
	l := append(patternsUpTo(3, "a", "b", "+"), append(onlyPatterns(), goodTopics()...)...)
	for range 1000 {
		l = append(l, randomPattern(r))
	}
	for _, p := range l {
		if is, ok := impl.PatternCovers(p, p); !is || !ok {
			t.Errorf("PatternCovers(%s, itself) = %v, %v", p, is, ok)
		}
		if is, ok := impl.PatternsMeet(p, p); !is || !ok {
			t.Errorf("PatternsMeet(%s, itself) = %v, %v", p, is, ok)
		}
		if is, ok := impl.PatternCovers("#", p); !is || !ok {
			t.Errorf("PatternCovers(#, %s) = %v, %v", p, is, ok)
		}
	}
}

// Promise 10 of random ones, of which many take in others.
func TestRandomPatterns(t *testing.T) {
	r := rand.New(rand.NewSource(10))
	told := map[string]int{}
	for range 20000 {
		topic := randomTopic(r)
		q := randomPatternOf(r, topic)
		p := randomPatternOf(r, q)
		if r.Intn(4) == 0 {
			p = randomPattern(r)
		}
		fitsP, okP := impl.TopicFits(p, topic)
		fitsQ, okQ := impl.TopicFits(q, topic)
		covers, okCovers := impl.PatternCovers(p, q)
		meet, okMeet := impl.PatternsMeet(p, q)
		turned, okTurned := impl.PatternsMeet(q, p)
		if !okP || !okQ || !okCovers || !okMeet || !okTurned {
			t.Fatalf("%s, %s, %s are good", p, q, topic)
		}
		if fitsP != wantTopicFits(p, topic) || fitsQ != wantTopicFits(q, topic) {
			t.Errorf("TopicFits of %s: %s %v, %s %v", topic, p, fitsP, q, fitsQ)
		}
		if covers != wantPatternCovers(p, q) {
			t.Errorf("PatternCovers(%s, %s) = %v", p, q, covers)
		}
		if meet != wantPatternsMeet(p, q) || meet != turned {
			t.Errorf("PatternsMeet(%s, %s) = %v, %v", p, q, meet, turned)
		}
		if covers && fitsQ && !fitsP {
			t.Errorf("%s fits %s, but not %s, which takes it in", topic, q, p)
		}
		if fitsP && fitsQ && !meet {
			t.Errorf("%s fits %s and %s, which do not meet", topic, p, q)
		}
		for name, is := range map[string]bool{"covers and fits": covers && fitsQ, "both fit": fitsP && fitsQ, "no cover": !covers, "no meet": !meet, "covers, fits not": covers && !fitsQ} {
			if is {
				told[name]++
			}
		}
	}
	for _, name := range []string{"covers and fits", "both fit", "no cover", "no meet", "covers, fits not"} {
		if told[name] < 500 {
			t.Error("too few of a kind:", name, told[name])
		}
	}
}

// What takes in what takes in a third takes it in.
func TestPatternsTakeInInTurn(t *testing.T) {
	l := patternsUpTo(3, "a", "b", "+")
	in := map[[2]string]bool{}
	for _, p := range l {
		for _, q := range l {
			is, _ := impl.PatternCovers(p, q)
			in[[2]string{p, q}] = is
			if back, _ := impl.PatternCovers(q, p); is && back && p != q {
				t.Errorf("%s and %s take in each other", p, q)
			}
		}
	}
	for _, p := range l {
		for _, q := range l {
			for _, s := range l {
				if in[[2]string{p, q}] && in[[2]string{q, s}] && !in[[2]string{p, s}] {
					t.Errorf("%s takes in %s, this %s, but not the first the last", p, q, s)
				}
			}
		}
	}
}

func TestWrongPatternsAndTopicsAreRefused(t *testing.T) {
	good := append(goodTopics()[:12], onlyPatterns()...)
	refused := func(name, p, q string, f func(string, string) (bool, bool)) {
		if is, ok := f(p, q); is || ok {
			t.Errorf("%s(%.60q, %.60q) = %v, %v", name, p, q, is, ok)
		}
	}
	for i, wrong := range wrongPatterns() {
		for j, p := range good {
			if i%3 != j%3 {
				continue
			}
			refused("TopicFits", p, wrong, impl.TopicFits)
			refused("TopicFits", wrong, "a", impl.TopicFits)
			refused("PatternCovers", p, wrong, impl.PatternCovers)
			refused("PatternCovers", wrong, p, impl.PatternCovers)
			refused("PatternsMeet", p, wrong, impl.PatternsMeet)
			refused("PatternsMeet", wrong, p, impl.PatternsMeet)
		}
		refused("TopicFits", wrong, wrong, impl.TopicFits)
		refused("PatternCovers", wrong, wrong, impl.PatternCovers)
		refused("PatternsMeet", wrong, wrong, impl.PatternsMeet)
		refused("TopicFits", "#", wrong, impl.TopicFits)
		refused("PatternCovers", "#", wrong, impl.PatternCovers)
		refused("PatternsMeet", "#", wrong, impl.PatternsMeet)
	}
	// A pattern with signs is no topic, even where it is the same.
	for _, p := range onlyPatterns() {
		refused("TopicFits", p, p, impl.TopicFits)
		refused("TopicFits", "#", p, impl.TopicFits)
	}
}

func TestBuildTrieTable(t *testing.T) {
	for name, c := range map[string]struct{ subs, want string }{
		"no subs":                    {"", "-1 ."},
		"one of one level":           {"a 5", "-1 .,0 a 5"},
		"one of a sign":              {"# 0", "-1 .,0 # 0"},
		"one of three levels":        {"a/b/c 100", "-1 .,0 a,1 b,2 c 100"},
		"the whole example":          {"a/# 3,a/b 1,+/b 3", "-1 .,0 a,1 # 3,1 b 1,0 +,4 b 3"},
		"two alike":                  {"a/b 7,a/b 7", "-1 .,0 a,1 b 7"},
		"two of one pattern":         {"a/b 7,a/b 3", "-1 .,0 a,1 b 3 7"},
		"many of one pattern":        {"+ 9,+ 1,+ 100,+ 0,+ 9,+ 1", "-1 .,0 + 0 1 9 100"},
		"of one who":                 {"a 1,b 1,a/b 1", "-1 .,0 a 1,0 b 1,1 b 1"},
		"one begins as another":      {"a/b/c 1,a 2,a/b 3", "-1 .,0 a 2,1 b 3,2 c 1"},
		"one begins as those ahead":  {"a 2,a/b 3,a/b/c 1", "-1 .,0 a 2,1 b 3,2 c 1"},
		"alike under other levels":   {"a/c 1,b/c 2,c/c 3", "-1 .,0 a,1 c 1,0 b,3 c 2,0 c,5 c 3"},
		"alike under itself":         {"a/a/a 1,a/a 2", "-1 .,0 a,1 a 2,2 a 1"},
		"a later one goes in":        {"a/b 1,c 2,a/d 3,c/e 4", "-1 .,0 a,1 b 1,0 c 2,1 d 3,3 e 4"},
		"not in the order of levels": {"z 1,a 2,m 3,# 4,+ 5,0 6", "-1 .,0 z 1,0 a 2,0 m 3,0 # 4,0 + 5,0 0 6"},
		"signs are levels":           {"+/+ 1,+/# 2,+ 3,# 4", "-1 .,0 +  3,1 + 1,1 # 2,0 # 4"},
		"six levels":                 {"a/b/c/d/e/f 1,a/b/c/d/e/# 2", "-1 .,0 a,1 b,2 c,3 d,4 e,5 f 1,5 # 2"},
		"long levels":                {"abcdef/000000 1,abcdef/999999 2", "-1 .,0 abcdef,1 000000 1,1 999999 2"},
		"levels that begin alike":    {"a 1,ab 2,abc 3,a/b 4,ab/c 5", "-1 .,0 a 1,0 ab 2,0 abc 3,1 b 4,2 c 5"},
	} {
		got, ok := impl.BuildTrie(subs(c.subs))
		if !sameTrie(got, trie(c.want)) || !ok {
			t.Errorf("%s: BuildTrie(%s) = %v, %v; want %v", name, c.subs, got, ok, trie(c.want))
		}
		if !sameTrie(wantTrie(subs(c.subs)), trie(c.want)) {
			t.Errorf("%s: no test: %v", name, wantTrie(subs(c.subs)))
		}
		if !impl.GoodTrie(trie(c.want)) || !wantGoodTrie(trie(c.want)) {
			t.Errorf("%s: %s is a good trie", name, c.want)
		}
	}
}

// wrongSubs are lists of which each has something wrong.
func wrongSubs() map[string][]impl.Sub {
	l := map[string][]impl.Sub{
		"one more than there may be": slices.Repeat(subs("a 1"), 31),
		"very many":                  slices.Repeat(subs("a 1"), 1<<16),
		"a zero sub":                 {{}},
		"no pattern":                 {{Who: 1}},
	}
	for _, who := range []int{-1, 101, math.MinInt, math.MaxInt, -100, 1000, 256, 1 << 32, -1 << 32} {
		for at, place := range []string{"first", "middle", "last"} {
			one := subs("a/b 0,a/# 50,+ 100")
			one[at].Who = who
			l[strconv.Itoa(who)+" in the "+place] = one
		}
		l[strconv.Itoa(who)+" alone"] = []impl.Sub{{Pattern: "a", Who: who}}
	}
	for i, wrong := range wrongPatterns() {
		if i%7 != 0 && len(wrong) > 3 {
			continue
		}
		for at, place := range []string{"first", "middle", "last"} {
			one := subs("a/b 0,a/# 50,+ 100")
			one[at].Pattern = wrong
			l["wrong pattern "+strconv.Itoa(i)+" in the "+place] = one
		}
		l["wrong pattern "+strconv.Itoa(i)+" alone"] = []impl.Sub{{Pattern: wrong, Who: 1}}
		full := slices.Repeat(subs("a 1"), 30)
		full[29].Pattern = wrong
		l["wrong pattern "+strconv.Itoa(i)+" behind 29"] = full
	}
	return l
}

func TestWrongSubsAreRefused(t *testing.T) {
	for name, l := range wrongSubs() {
		if wantGoodSubs(l) {
			t.Errorf("%s: no test: they are good", name)
		}
		if got, ok := impl.BuildTrie(l); len(got) != 0 || ok {
			t.Errorf("%s: BuildTrie = %v, %v", name, got, ok)
		}
		for _, topic := range []string{"a", "a/b", "q"} {
			if got, ok := impl.WhoGets(l, topic); len(got) != 0 || ok {
				t.Errorf("%s: WhoGets(%s) = %v, %v", name, topic, got, ok)
			}
		}
	}
	for _, topic := range append(wrongPatterns(), onlyPatterns()...) {
		for _, l := range [][]impl.Sub{nil, subs("# 1"), subs("a 1,+/# 2")} {
			if got, ok := impl.WhoGets(l, topic); len(got) != 0 || ok {
				t.Errorf("WhoGets(%v, %.60q) = %v, %v", l, topic, got, ok)
			}
		}
		for _, u := range []string{"-1 .", "-1 .,0 # 1", "-1 .,0 a 1,0 +,2 # 2"} {
			if got, come, ok := impl.LookUp(trie(u), topic); len(got) != 0 || come != 0 || ok {
				t.Errorf("LookUp(%s, %.60q) = %v, %d, %v", u, topic, got, come, ok)
			}
		}
	}
}

// thirtySubs has no two levels alike: the most nodes there are.
func thirtySubs() []impl.Sub {
	var l []impl.Sub
	for i := range 30 {
		n := strconv.Itoa(i)
		l = append(l, impl.Sub{Pattern: strings.Join([]string{"a" + n, "b" + n, "c" + n, "d" + n, "e" + n, "f" + n}, "/"), Who: i * 3})
	}
	return l
}

func TestSubsAtTheEdges(t *testing.T) {
	most := thirtySubs()
	u, ok := impl.BuildTrie(most)
	if len(u) != 181 || !ok || !sameTrie(u, wantTrie(most)) || !impl.GoodTrie(u) {
		t.Errorf("of 30 subs of six levels: %d nodes, %v", len(u), ok)
	}
	if got, come, ok := impl.LookUp(u, "a29/b29/c29/d29/e29/f29"); !slices.Equal(got, []int{87}) || come != 7 || !ok {
		t.Errorf("of 30 subs of six levels: LookUp = %v, %d, %v", got, come, ok)
	}
	full := slices.Repeat(subs("a 0,a 100,+ 50"), 10)
	if u, ok := impl.BuildTrie(full); !sameTrie(u, trie("-1 .,0 a 0 100,0 + 50")) || !ok {
		t.Errorf("of 30 subs: %v, %v", u, ok)
	}
	if got, ok := impl.WhoGets(full, "a"); !slices.Equal(got, []int{0, 50, 100}) || !ok {
		t.Errorf("of 30 subs: WhoGets = %v, %v", got, ok)
	}
	var thirtyWhos []impl.Sub
	for i := range 30 {
		thirtyWhos = append(thirtyWhos, impl.Sub{Pattern: "a/#", Who: 100 - i})
	}
	got, ok := impl.WhoGets(thirtyWhos, "a")
	u, okTrie := impl.BuildTrie(thirtyWhos)
	whos, come, okLook := impl.LookUp(u, "a")
	if len(got) != 30 || !slices.IsSorted(got) || got[0] != 71 || !ok || !okTrie || !slices.Equal(whos, got) || come != 3 || !okLook {
		t.Errorf("of 30 Whos: %v, %v, %v, %d, %v", got, ok, whos, come, okLook)
	}
}

// Who gets what, and the nodes come to, counted by hand.
func TestLookUpTable(t *testing.T) {
	type asked struct {
		topic string
		whos  []int
		come  int
	}
	for subsText, l := range map[string][]asked{
		"": {{"a", nil, 1}, {"a/b/c/d/e/f", nil, 1}},
		"a/# 3,a/b 1,+/b 3": {
			{"a", []int{3}, 4},         // the root, a, a/#, +
			{"a/b", []int{1, 3}, 6},    // all
			{"a/c", []int{3}, 4},       // the root, a, a/#, +
			{"a/b/c", []int{3}, 6},     // all, of which a/b and +/b have nothing for c
			{"b", nil, 2},              // the root, +
			{"b/b", []int{3}, 3},       // the root, +, +/b
			{"b/c/b", nil, 2},          // the root, +
			{"b/b/b", nil, 3},          // the root, +, +/b
			{"a/b/c/d", []int{3}, 6},   // all
			{"aa", nil, 2},             // the root, +
			{"a/a/a/a", []int{3}, 4},   // the root, a, a/#, +
			{"a/bb", []int{3}, 4},      // the root, a, a/#, +
			{"x/b/a/b/a/b", nil, 3},    // the root, +, +/b
			{"abcdef/b", []int{3}, 3},  // the root, +, +/b
			{"a/a/a/a/a", []int{3}, 4}, // the root, a, a/#, +
		},
		"# 5": {{"a", []int{5}, 2}, {"a/b/c", []int{5}, 2}},
		"+ 5": {{"a", []int{5}, 2}, {"a/b/c", nil, 2}},
		"a 5": {{"a", []int{5}, 2}, {"b", nil, 1}, {"a/b", nil, 2}, {"b/a", nil, 1}},
		"a/b/c 1,a/b 2,a 3": {
			{"a", []int{3}, 2}, {"a/b", []int{2}, 3}, {"a/b/c", []int{1}, 4}, {"a/b/c/d", nil, 4}, {"a/c/b", nil, 2}, {"b", nil, 1},
		},
		"a/b/c/d/e/# 1,a/b/c/d/e/f 2,a/b/c/d/e 3,a/b/c/d/e/+ 4": {
			{"a/b/c/d/e/f", []int{1, 2, 4}, 9}, {"a/b/c/d/e", []int{1, 3}, 7}, {"a/b/c/d", nil, 5}, {"a/b/c/d/e/g", []int{1, 4}, 8}, {"a/b/c/d/f", nil, 5}, {"b", nil, 1},
		},
		"+/+/+ 1,+/+ 2,+ 3,+/# 4,+/+/# 5,# 6": {
			{"a", []int{3, 4, 6}, 4}, {"a/b", []int{2, 4, 5, 6}, 6}, {"a/b/c", []int{1, 4, 5, 6}, 7}, {"a/b/c/d", []int{4, 5, 6}, 7},
		},
		"a/+/c 9,a/b/+ 8,+/b/c 7,a/b/c 9": {
			// The root; a, +; a/+, a/b, +/b; and one under each of these, and a/b/c.
			{"a/b/c", []int{7, 8, 9}, 10}, {"a/b/d", []int{8}, 7}, {"a/d/c", []int{9}, 5}, {"d/b/c", []int{7}, 4}, {"a/b", nil, 6}, {"d/d/c", nil, 2},
		},
		"a/a/# 1,a/# 1,# 1,+/a/a 1": {
			{"a/a/a", []int{1}, 9}, {"a/a", []int{1}, 8}, {"a", []int{1}, 5}, {"b/a/a", []int{1}, 5}, {"b/a/b", []int{1}, 4},
		},
	} {
		given := subs(subsText)
		u, ok := impl.BuildTrie(given)
		if !ok {
			t.Fatalf("BuildTrie(%s) tells false", subsText)
		}
		for _, a := range l {
			if got, come, ok := impl.LookUp(u, a.topic); !slices.Equal(got, a.whos) || come != a.come || !ok {
				t.Errorf("LookUp of %s, %s = %v, %d, %v; want %v, %d", subsText, a.topic, got, come, ok, a.whos, a.come)
			}
			if got, ok := impl.WhoGets(given, a.topic); !slices.Equal(got, a.whos) || !ok {
				t.Errorf("WhoGets(%s, %s) = %v, %v; want %v", subsText, a.topic, got, ok, a.whos)
			}
			if come := wantCome(u, a.topic); come != a.come || !slices.Equal(wantWhoGets(given, a.topic), a.whos) || !slices.Equal(wantTrieWhos(u, a.topic), a.whos) {
				t.Errorf("no test: %s, %s: %d", subsText, a.topic, come)
			}
		}
	}
}

// Promise 10: who gets it is found by going down, whatever the order of the nodes.
func TestLookUpTellsWhoGets(t *testing.T) {
	r := rand.New(rand.NewSource(11))
	told := map[string]int{}
	for range 1500 {
		l := randomSubs(r)
		u, ok := impl.BuildTrie(l)
		if !ok || !sameTrie(u, wantTrie(l)) {
			t.Fatalf("BuildTrie(%v) = %v, %v; want %v", l, u, ok, wantTrie(l))
		}
		other := shuffled(r, u)
		if !impl.GoodTrie(u) || !impl.GoodTrie(other) || !wantGoodTrie(other) {
			t.Fatalf("not good: %v, %v", u, other)
		}
		if !sameTrie(u, other) {
			told["shuffled"]++
		}
		for range 8 {
			topic := someTopicOf(r, l)
			want, come := wantWhoGets(l, topic), wantCome(u, topic)
			if got, ok := impl.WhoGets(l, topic); !slices.Equal(got, want) || !ok {
				t.Errorf("WhoGets(%v, %s) = %v, %v; want %v", l, topic, got, ok, want)
			}
			if got, n, ok := impl.LookUp(u, topic); !slices.Equal(got, want) || n != come || !ok {
				t.Errorf("LookUp of %v, %s = %v, %d, %v; want %v, %d", l, topic, got, n, ok, want, come)
			}
			if got, n, ok := impl.LookUp(other, topic); !slices.Equal(got, want) || n != come || !ok {
				t.Errorf("LookUp of %v in another order, %s = %v, %d, %v; want %v, %d", l, topic, got, n, ok, want, come)
			}
			if len(want) > 3 {
				told["more than three"]++
			}
			if come < len(u) {
				told["not all nodes"]++
			}
		}
	}
	if told["shuffled"] < 1000 || told["more than three"] < 1000 || told["not all nodes"] < 5000 {
		t.Error("too few of a kind:", told)
	}
}

// Promise 10 over all pairs of patterns of few levels.
func TestLookUpOfAllPairsOfPatterns(t *testing.T) {
	patterns := patternsUpTo(2, "a", "b", "+")
	topics := topicsUpTo(3, "a", "b", "c")
	for _, p := range patterns {
		for _, q := range patterns {
			l := []impl.Sub{{Pattern: p, Who: 9}, {Pattern: q, Who: 4}}
			u, ok := impl.BuildTrie(l)
			if !ok || !sameTrie(u, wantTrie(l)) {
				t.Fatalf("BuildTrie(%v) = %v, %v", l, u, ok)
			}
			for _, topic := range topics {
				want, okWant := impl.WhoGets(l, topic)
				got, come, ok := impl.LookUp(u, topic)
				if !slices.Equal(got, want) || !okWant || !ok || come < 1 || come > len(u) {
					t.Errorf("LookUp of %v, %s = %v, %d, %v; want %v", l, topic, got, come, ok, want)
				}
			}
		}
	}
}

// goodTries are those in an order that BuildTrie does not make, too.
func goodTries() map[string][]impl.TrieNode {
	return map[string][]impl.TrieNode{
		"the root alone":               trie("-1 ."),
		"one":                          trie("-1 .,0 a 1"),
		"by levels":                    trie("-1 .,0 a,0 +,1 #  3,2 b 3,1 b 1"),
		"turned":                       trie("-1 .,0 +,0 a,2 b 1,1 b 3,2 # 3"),
		"no Whos ahead of one below":   trie("-1 .,0 a,0 b 7,1 c 0"),
		"Whos at one that has below":   trie("-1 .,0 a 0 100,1 c 0 100"),
		"six levels":                   trie("-1 .,0 a,1 b,2 c,3 d,4 e,5 f 1,5 # 2,5 + 3"),
		"alike, not under one":         trie("-1 .,0 a,1 a,2 a 5,0 b,4 a 5,5 a 6"),
		"thirty Whos at one":           trie("-1 .,0 a 0 1 2 3 4 5 6 7 8 9 10 11 12 13 14 15 16 17 18 19 20 21 22 23 24 25 26 27 28 100"),
		"thirty Whos at three":         trie("-1 .,0 a 0 1 2 3 4 5 6 7 8 9,0 + 0 1 2 3 4 5 6 7 8 9,0 # 0 1 2 3 4 5 6 7 8 9"),
		"signs at each level":          trie("-1 .,0 # 1,0 + 1,2 # 1,2 + 1,4 # 1"),
		"long levels":                  trie("-1 .,0 abcdef 1,0 012345 1"),
		"an empty list of Whos":        {{Up: -1, Whos: []int{}}, {Level: "a", Whos: []int{}}, {Level: "b", Up: 1, Whos: []int{1}}},
		"the most nodes":               wantTrie(thirtySubs()),
		"the last one is under a node": trie("-1 .,0 a,0 b 1,0 c 1,1 d 1"),
	}
}

func wrongTries() map[string][]impl.TrieNode {
	l := map[string][]impl.TrieNode{
		"nil":                                 nil,
		"empty":                               {},
		"a zero node":                         {{}},
		"no root":                             trie("0 a 1"),
		"no root, Up -1":                      trie("-1 a 1"),
		"the root has Whos":                   trie("-1 . 1"),
		"the root has Whos and nodes":         trie("-1 . 1,0 a 1"),
		"the root has a Level":                trie("-1 a,0 a 1"),
		"the root is a sign":                  trie("-1 #,0 a 1"),
		"the root's Up is 0":                  trie("0 .,0 a 1"),
		"the root's Up is -2":                 trie("-2 .,0 a 1"),
		"the root's Up is 1":                  trie("1 .,0 a 1"),
		"a second root":                       trie("-1 .,-1 ."),
		"a second root behind one":            trie("-1 .,0 a 1,-1 ."),
		"a second root with a Level":          trie("-1 .,-1 a 1"),
		"a second root with nodes":            trie("-1 .,0 a 1,-1 .,2 b 1"),
		"the root is not first":               trie("1 a 1,-1 ."),
		"an Up is itself":                     trie("-1 .,1 a 1"),
		"an Up is behind":                     trie("-1 .,2 a 1,0 b 1"),
		"two are each other's Up":             trie("-1 .,2 a 1,1 b 1"),
		"an Up is beyond all":                 trie("-1 .,0 a 1,3 b 1"),
		"an Up is far beyond":                 trie("-1 .,0 a 1,100 b 1"),
		"an Up is below 0":                    trie("-1 .,0 a 1,-2 b 1"),
		"an Up is the least":                  {{Up: -1}, {Level: "a", Up: math.MinInt, Whos: []int{1}}},
		"an Up is the greatest":               {{Up: -1}, {Level: "a", Up: math.MaxInt, Whos: []int{1}}},
		"no Level":                            trie("-1 .,0 . 1"),
		"no Level with one below":             trie("-1 .,0 .,1 a 1"),
		"no Level, the last":                  trie("-1 .,0 a 1,1 . 1"),
		"two alike":                           trie("-1 .,0 a 1,0 a 1"),
		"two alike of other Whos":             trie("-1 .,0 a 1,0 a 2"),
		"two alike apart":                     trie("-1 .,0 a 1,0 b 1,0 a 2"),
		"two alike below":                     trie("-1 .,0 a,1 b 1,1 b 2"),
		"two alike, each with one below":      trie("-1 .,0 a,0 a,1 b 1,2 c 2"),
		"two alike signs":                     trie("-1 .,0 + 1,0 + 2"),
		"two alike signs for all":             trie("-1 .,0 a,1 # 1,1 # 2"),
		"one behind #":                        trie("-1 .,0 # 1,1 a 1"),
		"one behind # that has no Whos":       trie("-1 .,0 #,1 a 1"),
		"+ behind #":                          trie("-1 .,0 # 1,1 + 1"),
		"# behind #":                          trie("-1 .,0 # 1,1 # 1"),
		"one behind # further down":           trie("-1 .,0 a,1 # 1,2 b 1"),
		"an end without Whos":                 trie("-1 .,0 a"),
		"an end without Whos, the last":       trie("-1 .,0 a 1,0 b"),
		"an end without Whos, not last":       trie("-1 .,0 b,0 a 1"),
		"an end without Whos, below":          trie("-1 .,0 a 1,1 b"),
		"an end without Whos, between":        trie("-1 .,0 a,0 b,1 c 1"),
		"an end without Whos, a sign":         trie("-1 .,0 #"),
		"an end with an empty list":           {{Up: -1}, {Level: "a", Whos: []int{}}},
		"Whos that fall":                      trie("-1 .,0 a 2 1"),
		"Whos alike":                          trie("-1 .,0 a 1 1"),
		"Whos that fall at the end":           trie("-1 .,0 a 1 2 3 4 0"),
		"Whos alike at the end":               trie("-1 .,0 a 1 2 3 3"),
		"Whos that fall, not last":            trie("-1 .,0 a 2 1,0 b 1"),
		"Whos that fall, with one below":      trie("-1 .,0 a 2 1,1 b 1"),
		"a Who below 0":                       trie("-1 .,0 a -1"),
		"a Who below 0 ahead of others":       trie("-1 .,0 a -1 0 1"),
		"a Who above 100":                     trie("-1 .,0 a 101"),
		"a Who above 100 behind others":       trie("-1 .,0 a 0 100 101"),
		"a Who above 100, not last":           trie("-1 .,0 a 101,0 b 1"),
		"the least Who":                       {{Up: -1}, {Level: "a", Whos: []int{math.MinInt}}},
		"the greatest Who":                    {{Up: -1}, {Level: "a", Whos: []int{1, math.MaxInt}}},
		"31 Whos at one":                      trie("-1 .,0 a 0 1 2 3 4 5 6 7 8 9 10 11 12 13 14 15 16 17 18 19 20 21 22 23 24 25 26 27 28 29 30"),
		"31 Whos at three":                    trie("-1 .,0 a 0 1 2 3 4 5 6 7 8 9,0 + 0 1 2 3 4 5 6 7 8 9,0 # 0 1 2 3 4 5 6 7 8 9 10"),
		"31 Whos, the first has one more":     trie("-1 .,0 a 0 1 2 3 4 5 6 7 8 9 10,0 + 0 1 2 3 4 5 6 7 8 9,0 # 0 1 2 3 4 5 6 7 8 9"),
		"31 Whos of 31 nodes":                 manyNodes(31),
		"very many Whos":                      {{Up: -1}, {Level: "a", Whos: make([]int, 1<<16)}},
		"seven levels":                        trie("-1 .,0 a,1 b,2 c,3 d,4 e,5 f,6 g 1"),
		"seven levels, the last is #":         trie("-1 .,0 a,1 b,2 c,3 d,4 e,5 f 1,6 # 1"),
		"seven levels, not last":              trie("-1 .,0 a,1 b,2 c,3 d,4 e,5 f,6 g 1,0 z 1"),
		"eight levels":                        trie("-1 .,0 a,1 b,2 c,3 d,4 e,5 f,6 g,7 h 1"),
		"very many zero nodes":                make([]impl.TrieNode, 1<<16),
		"very many nodes":                     manyNodes(1 << 12),
		"the most nodes and one more":         append(wantTrie(thirtySubs()), impl.TrieNode{Level: "x", Whos: []int{1}}),
		"the most nodes and one without Whos": append(wantTrie(thirtySubs()), impl.TrieNode{Level: "x"}),
	}
	for i, level := range wrongLevels() {
		l["a wrong Level, "+strconv.Itoa(i)] = []impl.TrieNode{{Up: -1}, {Level: level, Whos: []int{1}}}
		l["a wrong Level with one below, "+strconv.Itoa(i)] = []impl.TrieNode{{Up: -1}, {Level: level}, {Level: "a", Up: 1, Whos: []int{1}}}
		l["a wrong Level below, "+strconv.Itoa(i)] = []impl.TrieNode{{Up: -1}, {Level: "a"}, {Level: level, Up: 1, Whos: []int{1}}}
		l["a wrong Level of the root, "+strconv.Itoa(i)] = []impl.TrieNode{{Up: -1, Level: level + "a"}, {Level: "a", Whos: []int{1}}}
	}
	return l
}

// manyNodes is so many nodes under the root, of a Who each.
func manyNodes(many int) []impl.TrieNode {
	t := []impl.TrieNode{{Up: -1}}
	for i := range many {
		t = append(t, impl.TrieNode{Level: "n" + strconv.Itoa(i), Whos: []int{i % 101}})
	}
	return t
}

func TestGoodTrie(t *testing.T) {
	for name, u := range goodTries() {
		if !impl.GoodTrie(u) || !wantGoodTrie(u) {
			t.Errorf("%s: it is good", name)
		}
		if _, come, ok := impl.LookUp(u, "a"); come < 1 || !ok {
			t.Errorf("%s: LookUp tells %d, %v", name, come, ok)
		}
	}
	if !impl.GoodTrie(manyNodes(30)) {
		t.Error("30 nodes of a Who each are good")
	}
	for name, u := range wrongTries() {
		if impl.GoodTrie(u) || wantGoodTrie(u) {
			t.Errorf("%s: it is not good", name)
		}
		for _, topic := range []string{"a", "a/b", "b/c/d"} {
			if got, come, ok := impl.LookUp(u, topic); len(got) != 0 || come != 0 || ok {
				t.Errorf("%s: LookUp = %v, %d, %v", name, got, come, ok)
			}
		}
	}
}

// All tries of up to three nodes behind the root, of few Levels and Whos.
func TestGoodTrieOfAllFewNodes(t *testing.T) {
	var nodes []impl.TrieNode
	for up := -1; up <= 3; up++ {
		for _, level := range []string{"a", "+", "#", ""} {
			for _, whos := range [][]int{nil, {7}} {
				nodes = append(nodes, impl.TrieNode{Level: level, Up: up, Whos: whos})
			}
		}
	}
	good := map[bool]int{}
	ask := func(u ...impl.TrieNode) {
		want := wantGoodTrie(u)
		good[want]++
		if impl.GoodTrie(u) != want {
			t.Errorf("%v: good is not %v", u, want)
		}
	}
	for _, root := range nodes {
		ask(root)
	}
	root := impl.TrieNode{Up: -1}
	for _, one := range nodes {
		ask(root, one)
		for _, two := range nodes {
			ask(root, one, two)
			for _, three := range nodes {
				ask(root, one, two, three)
			}
		}
	}
	if good[true] < 100 || good[false] < 50000 {
		t.Error("too few of a kind:", good)
	}
}

// spoiledTrie is a good trie with one thing changed, which may leave it good.
func spoiledTrie(r *rand.Rand) []impl.TrieNode {
	u := shuffled(r, wantTrie(randomSubs(r)))
	at := r.Intn(len(u))
	n := &u[at]
	switch r.Intn(8) {
	case 0:
		n.Up = r.Intn(len(u)+3) - 2
	case 1:
		n.Level = append(wrongLevels(), "+", "#", "a", "b", "zz")[r.Intn(len(wrongLevels())+5)]
	case 2:
		n.Whos = nil
	case 3:
		n.Whos = append(n.Whos, r.Intn(104)-2)
	case 4:
		u = append(u, impl.TrieNode{Level: randomLevel(r), Up: r.Intn(len(u)), Whos: []int{r.Intn(101)}})
	case 5:
		u = append(u, impl.TrieNode{Level: u[r.Intn(len(u))].Level, Up: u[r.Intn(len(u))].Up, Whos: []int{r.Intn(101)}})
	case 6:
		u = slices.Delete(u, at, at+1)
	case 7:
		other := r.Intn(len(u))
		u[at], u[other] = u[other], u[at]
	}
	return u
}

func TestGoodTrieOfSpoiledOnes(t *testing.T) {
	r := rand.New(rand.NewSource(12))
	good := map[bool]int{}
	for range 8000 {
		u := spoiledTrie(r)
		want := wantGoodTrie(u)
		good[want]++
		if impl.GoodTrie(u) != want {
			t.Errorf("%v: good is not %v", u, want)
		}
		topic := randomTopic(r)
		var whos []int
		come := 0
		if want {
			whos, come = wantTrieWhos(u, topic), wantCome(u, topic)
		}
		if got, n, ok := impl.LookUp(u, topic); !slices.Equal(got, whos) || n != come || ok != want {
			t.Errorf("LookUp(%v, %s) = %v, %d, %v; want %v, %d", u, topic, got, n, ok, whos, come)
		}
	}
	if good[true] < 1200 || good[false] < 2000 {
		t.Error("too few of a kind:", good)
	}
}
