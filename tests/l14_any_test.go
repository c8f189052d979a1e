package tests

import (
	"slices"
	"strconv"
	"strings"
	"sync"
	"testing"

	"loop.example/g00333/impl"
)

func anyStreams() []string {
	l := append(anyTexts(), "~", "~\x00", "~<", "~=", emptyFrame, wantFrame("ab"), wantFrame("ab")+"x", framesOf("a", "b")+"~\x05he")
	for _, long := range []int{59, 60, 61, 62, 63, 255, 256, 299, 300, 301, 1 << 16} {
		for _, fill := range []string{"~", "x", "\x00", "\xff", emptyFrame, wantFrame(strings.Repeat("~", 60))} {
			l = append(l, strings.Repeat(fill, long)[:long])
		}
	}
	return l
}

func anyReaders() map[string]impl.Reader {
	l := goodReaders()
	for name, r := range wrongReaders() {
		l["wrong: "+name] = r
	}
	for i, s := range anyStreams() {
		name := "stream " + strconv.Itoa(i)
		l[name+" left"] = impl.Reader{Rest: s, Got: manyTexts(i % 43)}
		l[name+" left, bad"] = impl.Reader{Rest: s, Bad: true}
		l[name+" got"] = impl.Reader{Got: []string{s}}
		l[name+" got first"] = impl.Reader{Rest: "~", Got: append([]string{s}, manyTexts(39)...)}
		l[name+" got last"] = impl.Reader{Got: append(manyTexts(39), s), Bad: i%2 == 0}
	}
	return l
}

func anyPieces() map[string][]string {
	l := map[string][]string{"nil": nil, "empty": {}, "very many": make([]string, 1<<16), "very many long ones": slices.Repeat(anyTexts(), 1<<10)}
	for i, s := range anyStreams() {
		name := "stream " + strconv.Itoa(i)
		l[name] = []string{s}
		l[name+" first"] = []string{s, wantFrame("ab"), "~"}
		l[name+" last"] = []string{"~", "\x00", "\x01" + wantFrame("ab"), s}
		l[name+" sixty times"] = slices.Repeat([]string{s}, 60)
		l[name+" 61 times"] = slices.Repeat([]string{s}, 61)
	}
	return l
}

// behindTexts lays texts behind a list's length that would change each answer, a wrong one too.
func behindTexts(texts []string) ([]string, []string) {
	memory := append(slices.Clone(texts), "behind", emptyFrame, strings.Repeat("x", 61), strings.Repeat("x", 301), "~")
	return memory[:len(texts)], memory
}

// A panic in any of these fails the test by itself.
func TestFramesAnswerAtAnyTexts(t *testing.T) {
	for _, s := range anyStreams() {
		framed(t, s)
		var texts []string
		rest, isBad, okWant := "", false, len(s) <= 300
		if okWant {
			texts, rest, isBad = wantUnframed(s)
		}
		if got, left, is, ok := impl.UnframeAll(s); !slices.Equal(got, texts) || left != rest || is != isBad || ok != okWant {
			t.Errorf("UnframeAll(%.80q) = %q, %q, %v, %v; want %q, %q, %v, %v", s, got, left, is, ok, texts, rest, isBad, okWant)
		}
	}
}

func TestReadersAnswerAtAnyReaders(t *testing.T) {
	good := 0
	for name, r := range anyReaders() {
		given, memory := behindTexts(r.Got)
		before := slices.Clone(memory)
		of := impl.Reader{Rest: r.Rest, Got: given, Bad: r.Bad}
		isGood := wantGoodReader(r)
		if isGood {
			good++
		}
		if got := impl.GoodReader(of); got != isGood {
			t.Errorf("%s: GoodReader(%s) = %v", name, shown(r), got)
		}
		want, text, okWant := wantTaken(r)
		if got, first, ok := impl.TakeFrame(of); !sameReader(got, want) || first != text || ok != okWant {
			t.Errorf("%s: TakeFrame(%s) = %s, %q, %v; want %s, %q, %v", name, shown(r), shown(got), first, ok, shown(want), text, okWant)
		}
		for _, s := range anyStreams() {
			want, okWant := wantFed(r, s)
			if got, ok := impl.FeedReader(of, s); !sameReader(got, want) || ok != okWant {
				t.Errorf("%s: FeedReader(%s, %.80q) = %s, %v; want %s, %v", name, shown(r), s, shown(got), ok, shown(want), okWant)
			}
		}
		if !slices.Equal(memory, before) {
			t.Fatalf("%s: it was written into", name)
		}
	}
	if good < 100 {
		t.Error("too few are good:", good)
	}
}

func TestFeedAllAnswersAtAnyPieces(t *testing.T) {
	good := 0
	for name, pieces := range anyPieces() {
		given, memory := behindTexts(pieces)
		before := slices.Clone(memory)
		want, okWant := wantFedAll(pieces)
		if okWant {
			good++
		}
		if got, ok := impl.FeedAll(given); !sameReader(got, want) || ok != okWant {
			t.Errorf("%s: FeedAll = %s, %v; want %s, %v", name, shown(got), ok, shown(want), okWant)
		}
		if !slices.Equal(memory, before) {
			t.Fatalf("%s: they were written into", name)
		}
	}
	if good < 100 {
		t.Error("too few are good:", good)
	}
}

// What lies behind a list's length is no part of it.
func TestReadersDoNotReadBehindTheLength(t *testing.T) {
	whole := append(manyTexts(40), "one more", strings.Repeat("x", 61))
	for many := range 41 {
		r := impl.Reader{Rest: "~\x00", Got: whole[:many]}
		if !impl.GoodReader(r) {
			t.Errorf("the first %d of %d texts are good", many, len(whole))
		}
		want := impl.Reader{Got: append(manyTexts(many), "")}
		want.Got = want.Got[:min(many+1, 40)]
		if got, ok := impl.FeedReader(r, "\x01"); !sameReader(got, want) || !ok {
			t.Errorf("FeedReader of the first %d of %d texts = %s, %v", many, len(whole), shown(got), ok)
		}
		if got, text, ok := impl.TakeFrame(r); ok != (many > 0) || len(got.Got) != max(many-1, 0) || ok != (text == "text 0") {
			t.Errorf("TakeFrame of the first %d of %d texts = %s, %q, %v", many, len(whole), shown(got), text, ok)
		}
	}
	if !slices.Equal(whole, append(manyTexts(40), "one more", strings.Repeat("x", 61))) {
		t.Error("the texts were written into:", whole)
	}
	for many := range 61 {
		pieces := slices.Repeat([]string{emptyFrame}, 62)
		if got, ok := impl.FeedAll(pieces[:many]); len(got.Got) != min(many+1, 40) || !ok {
			t.Errorf("FeedAll of the first %d of 62 pieces = %s, %v", many, shown(got), ok)
		}
	}
}

// behindAreEmpty: whether an answer hands out no text behind its length.
func behindAreEmpty(texts []string) bool {
	for _, text := range texts[len(texts):cap(texts)] {
		if text != "" {
			return false
		}
	}
	return true
}

// spoilTexts writes over all that an answer hands out, and behind it.
func spoilTexts(texts []string) {
	whole := texts[:cap(texts)]
	for i := range whole {
		whole[i] = "spoilt"
	}
}

// ownReader has its texts in memory of their own, so that what shares it is seen.
func ownReader(r impl.Reader) impl.Reader {
	own := impl.Reader{Rest: strings.Clone(r.Rest), Bad: r.Bad}
	for _, text := range r.Got {
		own.Got = append(own.Got, strings.Clone(text))
	}
	return own
}

func TestReadersHandOutNewMemory(t *testing.T) {
	frames := framesOf("hello", "", "one more") + "~\x05he"
	for name, r := range goodReaders() {
		own := ownReader(r)
		given, memory := behindTexts(own.Got)
		before := slices.Clone(memory)
		own.Got = given
		for of, answer := range map[string]func() impl.Reader{
			"TakeFrame":                      func() impl.Reader { left, _, _ := impl.TakeFrame(own); return left },
			"FeedReader of nothing":          func() impl.Reader { fed, _ := impl.FeedReader(own, ""); return fed },
			"FeedReader of frames":           func() impl.Reader { fed, _ := impl.FeedReader(own, frames); return fed },
			"FeedReader of more than enough": func() impl.Reader { fed, _ := impl.FeedReader(own, strings.Repeat(wantFrame("a"), 60)); return fed },
		} {
			first, second := answer(), answer()
			want := ownReader(second)
			if !behindAreEmpty(first.Got) {
				t.Errorf("%s: %s hands out what lies behind: %q", name, of, first.Got[:cap(first.Got)])
			}
			if shareAnyText(append(first.Got, first.Rest), append(own.Got, own.Rest)) {
				t.Errorf("%s: a text of %s shares the argument's memory", name, of)
			}
			_ = append(first.Got, "spoilt")
			spoilTexts(first.Got)
			if !sameReader(second, want) || !sameReader(answer(), want) {
				t.Errorf("%s: two answers of %s share memory: %s", name, of, shown(second))
			}
		}
		if !slices.Equal(memory[:len(given)], before[:len(given)]) {
			t.Errorf("%s: it was written into", name)
		}
	}
}

func TestTakenTextsAreNewMemory(t *testing.T) {
	r := ownReader(impl.Reader{Rest: "~\x05he", Got: []string{"hello", "one more"}})
	_, text, ok := impl.TakeFrame(r)
	if text != "hello" || !ok || shareAnyText([]string{text}, r.Got) {
		t.Errorf("TakeFrame tells %q, %v, or a text that shares the argument's memory", text, ok)
	}
}

func TestUnframeAllHandsOutNewMemory(t *testing.T) {
	stream := strings.Clone(framesOf("hello", "one more", "", "ab") + "~\x05he")
	first, rest, _, _ := impl.UnframeAll(stream)
	second, _, _, ok := impl.UnframeAll(stream)
	if !behindAreEmpty(first) {
		t.Errorf("what lies behind is handed out: %q", first[:cap(first)])
	}
	for _, text := range append(first, rest) {
		if text != "" && within(text, stream) {
			t.Errorf("%q shares the argument's memory", text)
		}
	}
	_ = append(first, "spoilt")
	spoilTexts(first)
	if !slices.Equal(second, []string{"hello", "one more", "", "ab"}) || !ok {
		t.Errorf("two answers share memory: %q, %v", second, ok)
	}
}

func TestFeedAllHandsOutNewMemory(t *testing.T) {
	pieces := []string{"~\x05hel", "lo^~\x00", strings.Clone("\x01" + wantFrame("one more") + "~\x05he")}
	for _, given := range [][]string{nil, pieces[:1], pieces[:2], pieces} {
		before := slices.Clone(given)
		first, _ := impl.FeedAll(given)
		second, ok := impl.FeedAll(given)
		want := ownReader(second)
		if !behindAreEmpty(first.Got) {
			t.Errorf("of %q: what lies behind is handed out: %q", given, first.Got[:cap(first.Got)])
		}
		for _, piece := range given {
			if first.Rest != "" && within(first.Rest, piece) {
				t.Errorf("of %q: the Rest shares the argument's memory", given)
			}
		}
		_ = append(first.Got, "spoilt")
		spoilTexts(first.Got)
		third, _ := impl.FeedAll(given)
		if !sameReader(second, want) || !sameReader(third, want) || !ok || !slices.Equal(given, before) {
			t.Errorf("of %q: two answers share memory: %s, %s", before, shown(second), shown(third))
		}
	}
}

func TestFramesAnswerTheSameFromManySides(t *testing.T) {
	stream := framesOf("ab", "") + "~\x05he"
	want := impl.Reader{Rest: "~\x05he", Got: []string{"", "ab", ""}}
	given := impl.Reader{Rest: "~\x02", Got: []string{""}}
	var joined sync.WaitGroup
	for i := range 16 {
		joined.Go(func() {
			for range 100 {
				sum, okSum := impl.FrameSum("ab")
				frame, okFrame := impl.FrameOf("ab")
				texts, rest, isBad, okAll := impl.UnframeAll(stream)
				if sum != 50 || frame != "~\x02ab2" || !slices.Equal(texts, want.Got[1:]) || rest != want.Rest || isBad || !okSum || !okFrame || !okAll {
					t.Errorf("%d: %d, %q, %q, %q, %v", i, sum, frame, texts, rest, isBad)
				}
				fed, okFed := impl.FeedReader(given, stream[2:])
				all, okPieces := impl.FeedAll(inPieces(stream, 3))
				left, text, okTaken := impl.TakeFrame(all)
				if !sameReader(fed, want) || !sameReader(all, want) || !slices.Equal(left.Got, want.Got[1:]) || text != "" || !okFed || !okPieces || !okTaken {
					t.Errorf("%d: %s, %s, %s, %q", i, shown(fed), shown(all), shown(left), text)
				}
				if !impl.GoodReader(given) || !sameReader(impl.NewReader(), impl.Reader{Got: []string{""}}) {
					t.Errorf("%d: readers that were good are not", i)
				}
			}
		})
	}
	joined.Wait()
}
