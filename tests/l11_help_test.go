package tests

import (
	"math/rand"
	"slices"
	"strings"

	"loop.example/g00333/impl"
)

// states reads states as "-1 . 0,0 h 0,1 e 0 0 2": each its Up, its Byte (a dot for 0), its Fail and its Words.
func states(text string) []impl.State {
	var l []impl.State
	for _, part := range strings.Split(text, ",") {
		words := strings.Fields(part)
		s := impl.State{Up: decimal(words[0]), Fail: decimal(words[2])}
		if words[1] != "." {
			s.Byte = words[1][0]
		}
		for _, no := range words[3:] {
			s.Words = append(s.Words, decimal(no))
		}
		l = append(l, s)
	}
	return l
}

func sameStates(l, m []impl.State) bool {
	return slices.EqualFunc(l, m, func(a, b impl.State) bool {
		return a.Up == b.Up && a.Byte == b.Byte && a.Fail == b.Fail && slices.Equal(a.Words, b.Words)
	})
}

// foundWords reads places as "2 0,1 1": each its At and its Word.
func foundWords(text string) []impl.Found {
	var l []impl.Found
	for _, part := range strings.Split(text, ",") {
		at, word, isOne := strings.Cut(part, " ")
		if isOne {
			l = append(l, impl.Found{At: decimal(at), Word: decimal(word)})
		}
	}
	return l
}

func wantHasBytes(s string, least, most int) bool {
	return least <= len(s) && len(s) <= most
}

func wantGoodWords(words []string) bool {
	return len(words) <= 8 && !slices.ContainsFunc(words, func(word string) bool { return !wantHasBytes(word, 1, 20) })
}

// wantBorder tries each length, from the greatest on.
func wantBorder(s string) int {
	long := len(s) - 1
	for s[:long] != s[len(s)-long:] {
		long--
	}
	return long
}

func wantBorders(p string) []int {
	var l []int
	for k := range len(p) {
		l = append(l, wantBorder(p[:k+1]))
	}
	return l
}

// wantPeriod lays a text over itself, one place further each time.
func wantPeriod(s string) int {
	n := 1
	for !strings.HasPrefix(s, s[n:]) {
		n++
	}
	return n
}

func wantPlaces(s, p string) []int {
	var l []int
	for at := range len(s) {
		if strings.HasPrefix(s[at:], p) {
			l = append(l, at)
		}
	}
	return l
}

// wantLooks counts by what stands there: a byte is held behind each beginning of p, shorter than p, that ends ahead of
// it, the longest first, up to the first one that it goes on from.
func wantLooks(s, p string) int {
	looks := 0
	for at := range len(s) {
		for long := min(at, len(p)-1); long >= 0; long-- {
			if !strings.HasSuffix(s[:at], p[:long]) {
				continue
			}
			looks++
			if p[long] == s[at] {
				break
			}
		}
	}
	return looks
}

// States by texts alone: a state is the beginning that it stands for.

func wantBeginnings(words []string) []string {
	l := []string{""}
	for _, word := range words {
		for long := range len(word) {
			if text := word[:long+1]; !slices.Contains(l, text) {
				l = append(l, text)
			}
		}
	}
	return l
}

// wantEnding is the number of the longest ending of a text that is among the beginnings.
func wantEnding(beginnings []string, text string) int {
	at := slices.Index(beginnings, text)
	for at < 0 {
		text = text[1:]
		at = slices.Index(beginnings, text)
	}
	return at
}

func wantStates(words []string) []impl.State {
	beginnings := wantBeginnings(words)
	l := []impl.State{{Up: -1}}
	for _, text := range beginnings[1:] {
		last := len(text) - 1
		s := impl.State{Up: slices.Index(beginnings, text[:last]), Byte: text[last], Fail: wantEnding(beginnings, text[1:])}
		for no, word := range words {
			if strings.HasSuffix(text, word) {
				s.Words = append(s.Words, no)
			}
		}
		l = append(l, s)
	}
	return l
}

func wantStep(words []string, state int, b byte) int {
	beginnings := wantBeginnings(words)
	return wantEnding(beginnings, beginnings[state]+string([]byte{b}))
}

func wantFoundWords(s string, words []string) []impl.Found {
	var l []impl.Found
	for end := range len(s) + 1 {
		for no, word := range words {
			if strings.HasSuffix(s[:end], word) {
				l = append(l, impl.Found{At: end - len(word), Word: no})
			}
		}
	}
	return l
}

func wantLongestEnd(words []string, s string) int {
	long := 0
	for _, word := range words {
		for n := range len(word) + 1 {
			if strings.HasSuffix(s, word[:n]) {
				long = max(long, n)
			}
		}
	}
	return long
}

// textsOver is all texts of so many of the letters, the shorter ones first.
func textsOver(letters string, least, most int) []string {
	var all []string
	texts := []string{""}
	for long := 0; long <= most; long++ {
		if long >= least {
			all = append(all, texts...)
		}
		var next []string
		for _, s := range texts {
			for i := range len(letters) {
				next = append(next, s+letters[i:i+1])
			}
		}
		texts = next
	}
	return all
}

func randomOver(r *rand.Rand, letters string, least, most int) string {
	b := make([]byte, least+r.Intn(most-least+1))
	for i := range b {
		b[i] = letters[r.Intn(len(letters))]
	}
	return string(b)
}

// randomLetters is few of them, so that much stands in much, or all bytes.
func randomLetters(r *rand.Rand) string {
	return []string{"a", "ab", "ab", "abc", "\x00\xff", "a\x00\x80\xff", "abcdefgh"}[r.Intn(7)]
}

// randomRuns is a text of pieces that stand there again and again.
func randomRuns(r *rand.Rand, letters string, most int) string {
	var s string
	for len(s) < most && r.Intn(8) > 0 {
		piece := randomOver(r, letters, 1, 6)
		s += strings.Repeat(piece, 1+r.Intn(6)) + randomOver(r, letters, 0, 2)
	}
	return s[:min(len(s), most)]
}

// randomWords has words that are alike, or begin, end or lie in one another, too.
func randomWords(r *rand.Rand, letters string) []string {
	var words []string
	for range r.Intn(9) {
		word := randomOver(r, letters, 1, []int{2, 4, 8, 20}[r.Intn(4)])
		if len(words) > 0 && r.Intn(2) == 0 {
			other := words[r.Intn(len(words))]
			from := r.Intn(len(other))
			piece := other[from : from+1+r.Intn(len(other)-from)]
			word = []string{piece, piece + word, word + piece, other, other[from:], other[:from+1] + word}[r.Intn(6)]
		}
		words = append(words, word[:min(len(word), 20)])
	}
	return words
}

// randomAround is a text in which many of the words stand.
func randomAround(r *rand.Rand, letters string, words []string) string {
	var s string
	for range r.Intn(30) {
		if len(words) > 0 && r.Intn(3) > 0 {
			word := words[r.Intn(len(words))]
			s += word[:1+r.Intn(len(word))]
		} else {
			s += randomOver(r, letters+"z", 0, 2)
		}
	}
	return s[:min(len(s), 200)]
}
