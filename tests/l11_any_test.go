package tests

import (
	"math/rand"
	"slices"
	"strconv"
	"strings"
	"sync"
	"testing"

	"loop.example/g00333/impl"
)

// anySearched is texts at which a text, a p or a word may be given.
func anySearched() []string {
	l := append(anyTexts(), runsOfMaxText()...)
	for _, long := range []int{1, 2, 19, 20, 21, 199, 200, 201, 1 << 16} {
		l = append(l, strings.Repeat("a", long), strings.Repeat("\xff", long), strings.Repeat("ab\x00", long)[:long])
	}
	return append(l, "a", "ab", "he", "she", "ushers", "a\x00b", "ä", " ", "\n", strings.Repeat("a", 100)+"b")
}

func anyListsOfWords() map[string][]string {
	l := wrongWords()
	l["nil"], l["empty"] = nil, []string{}
	l["he, she, hers"] = heSheHers()
	l["the greatest"] = greatestWords()
	l["very many words"] = slices.Repeat([]string{"a"}, 1<<16)
	for i, s := range anySearched() {
		l["text "+strconv.Itoa(i)] = []string{s}
		l["text "+strconv.Itoa(i)+" first"] = []string{s, "ab", "b"}
		l["text "+strconv.Itoa(i)+" last"] = []string{"ab", "b", s}
		l["text "+strconv.Itoa(i)+" many times"] = slices.Repeat([]string{s}, 8)
	}
	r := rand.New(rand.NewSource(7))
	for i := range 40 {
		l["random ones, "+strconv.Itoa(i)] = randomWords(r, randomLetters(r))
	}
	return l
}

// behindWords lays words behind a list's length that would change each answer, a wrong one too.
func behindWords(words []string) ([]string, []string) {
	memory := append(slices.Clone(words), "a", "b", "h", "", strings.Repeat("a", 21))
	return memory[:len(words)], memory
}

// A panic in any of these fails the test by itself.
func TestSearchAnswersAtAnyTexts(t *testing.T) {
	good := 0
	for _, p := range anySearched() {
		isP := wantHasBytes(p, 1, 200)
		var borders []int
		period := 0
		if isP {
			borders, period = wantBorders(p), wantPeriod(p)
		}
		if got, ok := impl.BordersOf(p); !slices.Equal(got, borders) || ok != isP {
			t.Errorf("BordersOf(%.60q) = %v, %v; want %v, %v", p, got, ok, borders, isP)
		}
		if got, ok := impl.PeriodOf(p); got != period || ok != isP {
			t.Errorf("PeriodOf(%.60q) = %v, %v; want %v, %v", p, got, ok, period, isP)
		}
		for _, s := range anySearched() {
			okWant := isP && wantHasBytes(s, 0, 200)
			var places []int
			looks := 0
			if okWant {
				good++
				places, looks = wantPlaces(s, p), wantLooks(s, p)
			}
			if got, looked, ok := impl.FindAll(s, p); !slices.Equal(got, places) || looked != looks || ok != okWant {
				t.Errorf("FindAll(%.60q, %.60q) = %v, %d, %v; want %v, %d, %v", s, p, got, looked, ok, places, looks, okWant)
			}
		}
	}
	if good < 1000 {
		t.Error("too few are good:", good)
	}
}

func TestStatesAnswerAtAnyWords(t *testing.T) {
	good := 0
	for name, words := range anyListsOfWords() {
		given, memory := behindWords(words)
		before := slices.Clone(memory)
		isGood := wantGoodWords(words)
		var made []impl.State
		if isGood {
			good++
			made = wantStates(words)
		}
		if got, ok := impl.BuildStates(given); !sameStates(got, made) || ok != isGood {
			t.Errorf("%s: BuildStates = %v, %v; want %v, %v", name, got, ok, made, isGood)
		}
		for _, s := range anySearched() {
			okWant := isGood && wantHasBytes(s, 0, 200)
			var found []impl.Found
			long := 0
			if okWant {
				found, long = wantFoundWords(s, words), wantLongestEnd(words, s)
			}
			if got, ok := impl.FindWords(s, given); !slices.Equal(got, found) || ok != okWant {
				t.Errorf("%s: FindWords in %.60q = %v, %v; want %v, %v", name, s, got, ok, found, okWant)
			}
			if got, ok := impl.LongestEnd(given, s); got != long || ok != okWant {
				t.Errorf("%s: LongestEnd of %.60q = %v, %v; want %v, %v", name, s, got, ok, long, okWant)
			}
		}
		for _, state := range append(anyNumbers(), 2, 3, len(made)-1, len(made), len(made)+1) {
			okWant := isGood && state >= 0 && state < len(made)
			for _, b := range []byte{0, 'a', 'e', 'h', 's', 127, 128, 255} {
				want := 0
				if okWant {
					want = wantStep(words, state, b)
				}
				if got, ok := impl.StepState(given, state, b); got != want || ok != okWant {
					t.Errorf("%s: StepState(%d, %d) = %d, %v; want %d, %v", name, state, b, got, ok, want, okWant)
				}
			}
		}
		if !slices.Equal(memory, before) {
			t.Fatalf("%s: it was written into", name)
		}
	}
	if good < 100 {
		t.Error("too few are good:", good)
	}
}

// What lies behind a list's length is no part of it.
func TestWordsAreNotReadBehindTheLength(t *testing.T) {
	words := append(heSheHers(), "", strings.Repeat("a", 21))
	for end, many := range []int{1, 3, 6, 8} {
		made, ok := impl.BuildStates(words[:end])
		if len(made) != many || !ok {
			t.Errorf("the first %d words: BuildStates = %v, %v", end, made, ok)
		}
		if got, ok := impl.FindWords("ushers", words[:end]); len(got) != end || !ok {
			t.Errorf("the first %d words: FindWords = %v, %v", end, got, ok)
		}
		if got, ok := impl.LongestEnd(words[:end], "ushers"); got != []int{0, 0, 1, 4}[end] || !ok {
			t.Errorf("the first %d words: LongestEnd = %v, %v", end, got, ok)
		}
		if got, ok := impl.StepState(words[:end], many-1, 'h'); got != []int{0, 1, 1, 4}[end] || !ok {
			t.Errorf("the first %d words: StepState = %v, %v", end, got, ok)
		}
		if got, ok := impl.StepState(words[:end], many, 'h'); got != 0 || ok {
			t.Errorf("the first %d words: StepState from behind the last = %v, %v", end, got, ok)
		}
	}
	nine := slices.Repeat([]string{"a"}, 9)
	if _, ok := impl.BuildStates(nine[:8]); !ok {
		t.Error("eight of nine words are good")
	}
}

// spoilStates writes over all that an answer hands out, and behind it.
func spoilStates(l []impl.State) {
	for _, s := range l {
		spoilInts(s.Words)
	}
	whole := l[:cap(l)]
	for i := range whole {
		whole[i] = impl.State{Up: 77, Byte: 77, Fail: 77}
	}
}

func TestBuildStatesHandsOutNewMemory(t *testing.T) {
	for _, words := range [][]string{nil, {"a"}, heSheHers(), {"abab", "bab", "ab", "b"}, {"a", "a", "a", "a"}, {"b", "ab", "aab", "b"}, greatestWords(), {"aaaa", "aaa", "aa", "a", "a"}} {
		given, memory := behindWords(words)
		before := slices.Clone(memory)
		want := wantStates(words)
		first, _ := impl.BuildStates(given)
		second, ok := impl.BuildStates(given)
		spoilStates(first)
		if !sameStates(second, want) || !ok {
			t.Errorf("%q: two answers share memory: %v, %v", words, second, ok)
		}
		// No two lists of one answer share any, neither with those ahead nor with those behind.
		for at := range want {
			made, _ := impl.BuildStates(given)
			spoilInts(append(made[at].Words, 78))
			spoilInts(made[at].Words)
			made[at].Words = want[at].Words
			if !sameStates(made, want) {
				t.Errorf("%q: the Words of state %d share memory with others: %v", words, at, made)
			}
		}
		if !slices.Equal(memory, before) {
			t.Errorf("%q: the words were written into", words)
		}
	}
}

func TestSearchHandsOutNewMemory(t *testing.T) {
	for _, p := range []string{"a", "aa", "aba", strings.Repeat("ab", 100)} {
		first, _ := impl.BordersOf(p)
		second, ok := impl.BordersOf(p)
		spoilInts(first)
		if !slices.Equal(second, wantBorders(p)) || !ok {
			t.Errorf("BordersOf(%q): two answers share memory: %v, %v", p, second, ok)
		}
		s := strings.Repeat("aab", 60)
		firstPlaces, _, _ := impl.FindAll(s, p)
		secondPlaces, _, ok := impl.FindAll(s, p)
		spoilInts(firstPlaces)
		if !slices.Equal(secondPlaces, wantPlaces(s, p)) || !ok {
			t.Errorf("FindAll(%q, %q): two answers share memory: %v, %v", s, p, secondPlaces, ok)
		}
	}
	words := heSheHers()
	first, _ := impl.FindWords("ushers", words)
	second, ok := impl.FindWords("ushers", words)
	for i, whole := 0, first[:cap(first)]; i < len(whole); i++ {
		whole[i] = impl.Found{At: 77, Word: 77}
	}
	if !slices.Equal(second, foundWords("2 0,1 1,2 2")) || !ok || !slices.Equal(words, heSheHers()) {
		t.Errorf("FindWords: two answers share memory: %v, %v", second, ok)
	}
}

func TestSearchAnswersTheSameFromManySides(t *testing.T) {
	words := []string{"abab", "bab", "ab"}
	made := states("-1 . 0,0 a 0,1 b 5 2,2 a 6,3 b 7 0 1 2,0 b 0,5 a 1,6 b 2 1 2")
	var joined sync.WaitGroup
	for i := range 16 {
		joined.Go(func() {
			for range 100 {
				borders, okBorders := impl.BordersOf("ababaa")
				places, looks, okPlaces := impl.FindAll("abababac", "ababac")
				period, okPeriod := impl.PeriodOf("abcab")
				got, okMade := impl.BuildStates(words)
				found, okFound := impl.FindWords("abab", words)
				next, okNext := impl.StepState(words, 4, 'a')
				long, okLong := impl.LongestEnd(words, "xaba")
				if !slices.Equal(borders, []int{0, 0, 1, 2, 3, 1}) || !slices.Equal(places, []int{2}) || looks != 9 || period != 3 || !okBorders || !okPlaces || !okPeriod {
					t.Errorf("%d: %v, %v, %d, %d", i, borders, places, looks, period)
				}
				if !sameStates(got, made) || !slices.Equal(found, foundWords("0 2,0 0,1 1,2 2")) || next != 3 || long != 3 || !okMade || !okFound || !okNext || !okLong {
					t.Errorf("%d: %v, %v, %d, %d", i, got, found, next, long)
				}
			}
		})
	}
	joined.Wait()
}
