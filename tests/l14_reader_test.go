package tests

import (
	"math/rand"
	"slices"
	"strings"
	"testing"

	"loop.example/g00333/impl"
)

func TestNewReaderEachTimeAnew(t *testing.T) {
	want := impl.Reader{Got: []string{""}}
	for range 3 {
		r := impl.NewReader()
		if !sameReader(r, want) || !impl.GoodReader(r) {
			t.Errorf("NewReader = %s", shown(r))
		}
		r.Got[0], r.Rest, r.Bad = "spoilt", "~", true
		_ = append(r.Got, "more")
	}
}

func TestGoodReadersAndOthers(t *testing.T) {
	for name, r := range goodReaders() {
		if !impl.GoodReader(r) || !wantGoodReader(r) {
			t.Errorf("%s: GoodReader(%s) = %v, the reference %v", name, shown(r), impl.GoodReader(r), wantGoodReader(r))
		}
	}
	for name, r := range wrongReaders() {
		if impl.GoodReader(r) || wantGoodReader(r) {
			t.Errorf("%s: GoodReader = %v, the reference %v", name, impl.GoodReader(r), wantGoodReader(r))
		}
	}
}

func TestGoodReaderByHand(t *testing.T) {
	sixty := strings.Repeat("a", 60)
	for _, row := range []struct {
		rest       string
		good, over bool
	}{
		{"", true, true},
		{"~", true, false}, {"~\x00", true, false}, {"~\x02", true, false}, {"~\x02a", true, false}, {"~\x02ab", true, false},
		{"~<", true, false}, {"~<" + sixty, true, false},
		{"~\x02ab2", false, false}, {"~\x02ab3", false, false}, {"~\x02ab2~", false, false}, {"~\x02ab2~\x00\x01", false, false},
		{"~\x00\x01", false, false}, {"~\x00\x00", false, false}, {"~=", false, false}, {"~~", false, false}, {"~\xff", false, false},
		{"a", false, false}, {"\x00", false, false}, {"}", false, false}, {"\x7f", false, false}, {"a~", false, false},
		{"~<" + sixty + "a", false, false},
	} {
		if got := impl.GoodReader(impl.Reader{Rest: row.rest}); got != row.good {
			t.Errorf("a Rest of %q: %v; want %v", row.rest, got, row.good)
		}
		if got := impl.GoodReader(impl.Reader{Rest: row.rest, Bad: true}); got != row.over {
			t.Errorf("Bad, a Rest of %q: %v; want %v", row.rest, got, row.over)
		}
	}
	for many := range 44 {
		for _, isBad := range []bool{false, true} {
			if got := impl.GoodReader(impl.Reader{Got: make([]string, many), Bad: isBad}); got != (many <= 40) {
				t.Errorf("%d texts, Bad %v: %v", many, isBad, got)
			}
		}
	}
	for long := range 130 {
		for at := range 40 {
			got := manyTexts(40)
			got[at] = strings.Repeat("~", long)
			if is := impl.GoodReader(impl.Reader{Got: got}); is != (long <= 60) {
				t.Errorf("text %d has %d bytes: %v", at, long, is)
			}
		}
	}
}

func TestGoodReaderOfAllShortRests(t *testing.T) {
	for a := range 256 {
		first := oneByte(a)
		for _, rest := range []string{first, "~" + first, "~\x00" + first, "~\x01" + first, "~\x01\x01" + first, first + emptyFrame} {
			r := impl.Reader{Rest: rest}
			if got, want := impl.GoodReader(r), wantGoodReader(r); got != want {
				t.Errorf("a Rest of %q: %v; want %v", rest, got, want)
			}
		}
	}
	for name, stream := range manyStreams() {
		for long := range len(stream) + 1 {
			r := impl.Reader{Rest: stream[:long]}
			if got, want := impl.GoodReader(r), wantGoodReader(r); got != want {
				t.Errorf("%s, the first %d bytes: %v; want %v", name, long, got, want)
			}
		}
	}
}

func fed(t *testing.T, name string, r impl.Reader, s string) impl.Reader {
	t.Helper()
	want, okWant := wantFed(r, s)
	got, ok := impl.FeedReader(r, s)
	if !sameReader(got, want) || ok != okWant {
		t.Errorf("%s: FeedReader(%s, %.300q) = %s, %v; want %s, %v", name, shown(r), s, shown(got), ok, shown(want), okWant)
	}
	if ok && !impl.GoodReader(got) {
		t.Errorf("%s: FeedReader(%s, %q) tells one that is not good: %s", name, shown(r), s, shown(got))
	}
	return got
}

func TestFeedReaderByHand(t *testing.T) {
	for _, row := range []struct {
		name  string
		given impl.Reader
		bytes string
		want  impl.Reader
	}{
		{"nothing", impl.Reader{Got: []string{"a"}}, "", impl.Reader{Got: []string{"a"}}},
		{"nothing behind a beginning", impl.Reader{Rest: "~\x02"}, "", impl.Reader{Rest: "~\x02"}},
		{"a frame", impl.Reader{}, "~\x02ab2", impl.Reader{Got: []string{"ab"}}},
		{"a frame behind a text", impl.Reader{Got: []string{""}}, "~\x02ab2", impl.Reader{Got: []string{"", "ab"}}},
		{"the end of a frame", impl.Reader{Rest: "~\x02a"}, "b2", impl.Reader{Got: []string{"ab"}}},
		{"the end and a beginning", impl.Reader{Rest: "~"}, "\x02ab2~\x02a", impl.Reader{Rest: "~\x02a", Got: []string{"ab"}}},
		{"more of a beginning", impl.Reader{Rest: "~\x02"}, "a", impl.Reader{Rest: "~\x02a"}},
		{"two frames", impl.Reader{Rest: "~\x00"}, "\x01~\x00\x01", impl.Reader{Got: []string{"", ""}}},
		{"a bad count", impl.Reader{Rest: "~", Got: []string{"a"}}, "=", impl.Reader{Got: []string{"a"}, Bad: true}},
		{"a bad sum", impl.Reader{Rest: "~\x02ab"}, "3~\x00\x01", impl.Reader{Bad: true}},
		{"a bad first byte", impl.Reader{Got: []string{"a"}}, "~\x02ab2x~\x02ab2", impl.Reader{Got: []string{"a", "ab"}, Bad: true}},
		{"a mark twice", impl.Reader{Rest: "~"}, "~\x02ab2", impl.Reader{Bad: true}},
		{"a frame, where it is bad", impl.Reader{Got: []string{"a"}, Bad: true}, "~\x02ab2", impl.Reader{Got: []string{"a"}, Bad: true}},
		{"a beginning, where it is bad", impl.Reader{Bad: true}, "~", impl.Reader{Bad: true}},
		{"nothing, where it is bad", impl.Reader{Bad: true}, "", impl.Reader{Bad: true}},
	} {
		if got, ok := impl.FeedReader(row.given, row.bytes); !sameReader(got, row.want) || !ok {
			t.Errorf("%s: FeedReader(%s, %q) = %s, %v; want %s, true", row.name, shown(row.given), row.bytes, shown(got), ok, shown(row.want))
		}
		fed(t, row.name, row.given, row.bytes)
	}
}

func TestFeedReaderOfMaxStream(t *testing.T) {
	long := "~<" + strings.Repeat("a", 60)
	sum := oneByte(wantFrameSum(long[2:]))
	for name, r := range map[string]impl.Reader{
		"zero": {}, "new": impl.NewReader(), "a mark": {Rest: "~"}, "nearly whole": {Rest: long}, "no room": {Rest: "~\x00", Got: manyTexts(40)}, "bad": {Got: manyTexts(2), Bad: true},
	} {
		for _, fill := range []string{"~", emptyFrame, "x", "\x00", "\x01" + strings.Repeat(emptyFrame, 100), sum + strings.Repeat(emptyFrame, 100), wantFrame(strings.Repeat("b", 60))} {
			for _, many := range []int{299, 300, 301, 302, 1 << 16} {
				bytes := strings.Repeat(fill, many)[:many]
				got := fed(t, name, r, bytes)
				if many > 300 && !sameReader(got, impl.Reader{}) {
					t.Errorf("%s, of %d bytes: %s", name, many, shown(got))
				}
			}
		}
	}
	// 62 and 300 bytes together.
	want := impl.Reader{Rest: "~\x00", Got: append([]string{long[2:]}, make([]string, 39)...)}
	if got, ok := impl.FeedReader(impl.Reader{Rest: long}, sum+strings.Repeat(emptyFrame, 99)+"~\x00"); !sameReader(got, want) || !ok {
		t.Errorf("of 362 bytes together: %s, %v", shown(got), ok)
	}
}

func TestFeedReaderWithoutRoom(t *testing.T) {
	for many := range 41 {
		for more := range 60 {
			for _, end := range []string{"", "~", "~\x03ab", "x", "~=", "~\x00\x00", "~\x01a" + oneByte(127)} {
				given := impl.Reader{Got: manyTexts(many)}
				bytes := strings.Repeat(emptyFrame, more) + end
				got := fed(t, "more than there is room for", given, bytes)
				_, rest, isBad, _ := impl.UnframeAll(bytes)
				if len(got.Got) != min(many+more, 40) || got.Rest != rest || got.Bad != isBad {
					t.Errorf("%d texts, %d more and %q: %d texts, %q, %v", many, more, end, len(got.Got), got.Rest, got.Bad)
				}
			}
		}
	}
	given := impl.Reader{Rest: "~\x01", Got: manyTexts(38)}
	want := impl.Reader{Rest: "~", Got: append(manyTexts(38), "a", "b")}
	if got, ok := impl.FeedReader(given, "a"+oneByte(wantFrameSum("a"))+framesOf("b", "c", "d")+"~"); !sameReader(got, want) || !ok {
		t.Errorf("room for the first two of four: %s, %v", shown(got), ok)
	}
}

func TestFeedReaderOfReadersAndStreams(t *testing.T) {
	streams := manyStreams()
	for name, r := range goodReaders() {
		for of, stream := range streams {
			got := fed(t, name+", "+of, r, stream)
			if r.Bad && !sameReader(got, r) {
				t.Errorf("%s, %s: what is bad has changed: %s", name, of, shown(got))
			}
		}
	}
	for name, r := range wrongReaders() {
		for _, stream := range []string{"", "~", emptyFrame, "x", "\x00", "b2", strings.Repeat("a", 301)} {
			if got, ok := impl.FeedReader(r, stream); !sameReader(got, impl.Reader{}) || ok {
				t.Errorf("%s: FeedReader(%s, %.80q) = %s, %v", name, shown(r), stream, shown(got), ok)
			}
		}
	}
}

// What is bad stays bad, whatever comes.
func TestBadStaysBad(t *testing.T) {
	for name, place := range badPlaces() {
		r, ok := impl.FeedAll([]string{framesOf("ab"), place})
		if !r.Bad || r.Rest != "" || !slices.Equal(r.Got, []string{"", "ab"}) || !ok {
			t.Errorf("%s: %s, %v", name, shown(r), ok)
		}
		for of, stream := range manyStreams() {
			if got, ok := impl.FeedReader(r, stream); !sameReader(got, r) || !ok {
				t.Errorf("%s, then %s: %s, %v; want %s, true", name, of, shown(got), ok, shown(r))
			}
		}
		if got, ok := impl.FeedReader(r, strings.Repeat("a", 301)); !sameReader(got, impl.Reader{}) || ok {
			t.Errorf("%s, then 301 bytes: %s, %v", name, shown(got), ok)
		}
	}
}

func TestTakeFrameByHand(t *testing.T) {
	for _, row := range []struct {
		name  string
		given impl.Reader
		want  impl.Reader
		text  string
		ok    bool
	}{
		{"none", impl.Reader{}, impl.Reader{}, "", false},
		{"none, with a Rest", impl.Reader{Rest: "~\x02a"}, impl.Reader{}, "", false},
		{"none, bad", impl.Reader{Bad: true}, impl.Reader{}, "", false},
		{"a new one", impl.NewReader(), impl.Reader{}, "", true},
		{"one", impl.Reader{Rest: "~\x02a", Got: []string{"ab"}}, impl.Reader{Rest: "~\x02a"}, "ab", true},
		{"several", impl.Reader{Got: []string{"a", "b", "", "c"}}, impl.Reader{Got: []string{"b", "", "c"}}, "a", true},
		{"an empty one of several", impl.Reader{Rest: "~", Got: []string{"", "b"}}, impl.Reader{Rest: "~", Got: []string{"b"}}, "", true},
		{"one of a bad one", impl.Reader{Got: []string{"a"}, Bad: true}, impl.Reader{Bad: true}, "a", true},
		{"several of a bad one", impl.Reader{Got: []string{"a", "b"}, Bad: true}, impl.Reader{Got: []string{"b"}, Bad: true}, "a", true},
		{"of forty", impl.Reader{Got: manyTexts(40)}, impl.Reader{Got: manyTexts(40)[1:]}, "text 0", true},
		{"of 41", impl.Reader{Got: manyTexts(41)}, impl.Reader{}, "", false},
		{"of a Rest that is whole", impl.Reader{Rest: emptyFrame, Got: []string{"a"}}, impl.Reader{}, "", false},
		{"of a Rest where it is bad", impl.Reader{Rest: "~", Got: []string{"a"}, Bad: true}, impl.Reader{}, "", false},
		{"a text of 61", impl.Reader{Got: []string{strings.Repeat("a", 61)}}, impl.Reader{}, "", false},
	} {
		if got, text, ok := impl.TakeFrame(row.given); !sameReader(got, row.want) || text != row.text || ok != row.ok {
			t.Errorf("%s: TakeFrame(%s) = %s, %q, %v; want %s, %q, %v", row.name, shown(row.given), shown(got), text, ok, shown(row.want), row.text, row.ok)
		}
	}
}

func TestTakeFrameUntilNoneIsLeft(t *testing.T) {
	for name, r := range goodReaders() {
		left := r
		for at, want := range r.Got {
			next, text, ok := impl.TakeFrame(left)
			if text != want || next.Rest != r.Rest || next.Bad != r.Bad || !slices.Equal(next.Got, r.Got[at+1:]) || !ok || !impl.GoodReader(next) {
				t.Errorf("%s, text %d: %s, %q, %v", name, at, shown(next), text, ok)
			}
			left = next
		}
		if next, text, ok := impl.TakeFrame(left); !sameReader(next, impl.Reader{}) || text != "" || ok {
			t.Errorf("%s, none left: %s, %q, %v", name, shown(next), text, ok)
		}
	}
	for name, r := range wrongReaders() {
		if next, text, ok := impl.TakeFrame(r); !sameReader(next, impl.Reader{}) || text != "" || ok {
			t.Errorf("%s: %s, %q, %v", name, shown(next), text, ok)
		}
	}
}

// asWhole holds pieces against what the whole that they make tells, by FeedAll as far as it takes so many.
func asWhole(t *testing.T, name string, pieces []string) {
	t.Helper()
	texts, rest, isBad := wantUnframed(strings.Join(pieces, ""))
	got := append([]string{""}, texts...)
	want := impl.Reader{Rest: rest, Got: got[:min(len(got), 40)], Bad: isBad}
	r := impl.NewReader()
	for at, piece := range pieces {
		var ok bool
		if r, ok = impl.FeedReader(r, piece); !ok {
			t.Fatalf("%s: piece %d of %q is not taken", name, at, pieces)
		}
	}
	if !sameReader(r, want) {
		t.Errorf("%s: FeedReader each of %q = %s; want %s", name, pieces, shown(r), shown(want))
	}
	if len(pieces) > 60 {
		return
	}
	if r, ok := impl.FeedAll(pieces); !sameReader(r, want) || !ok {
		t.Errorf("%s: FeedAll(%q) = %s, %v; want %s, true", name, pieces, shown(r), ok, shown(want))
	}
}

// Promise 14. The stream as a whole is one of these pieces' lengths.
func TestWhatIsReadHangsOnNoCuts(t *testing.T) {
	r := rand.New(rand.NewSource(142))
	for name, stream := range manyStreams() {
		for at := range len(stream) + 1 {
			asWhole(t, name, []string{stream[:at], stream[at:]})
		}
		for long := 1; long <= len(stream)+1 && long <= 300; long++ {
			asWhole(t, name, inPieces(stream, long))
		}
		for range 20 {
			asWhole(t, name, drawnPieces(r, stream))
		}
	}
}

func TestWhatIsReadHangsOnNoTwoCuts(t *testing.T) {
	for name, stream := range map[string]string{
		"frames":            framesOf("ab", "", "~", "_") + "~\x05he",
		"a bad sum":         framesOf("ab", "") + "~\x02ab3" + framesOf("a"),
		"a bad count":       framesOf("~\x00\x01") + "~=" + framesOf("a"),
		"a bad first byte":  framesOf("a") + "\x00" + framesOf("a", ""),
		"no room":           strings.Repeat(emptyFrame, 38) + framesOf("a", "b") + "~\x02a",
		"no room, then bad": strings.Repeat(emptyFrame, 42) + "~\x02ab3~",
	} {
		for at := range len(stream) + 1 {
			for other := at; other <= len(stream); other++ {
				asWhole(t, name, []string{stream[:at], stream[at:other], stream[other:]})
			}
		}
	}
}

func TestWhatIsReadOfAllShortStreamsHangsOnNoCuts(t *testing.T) {
	streams := []string{""}
	for range 5 {
		var longer []string
		for _, stream := range streams {
			for _, b := range []string{"~", "\x00", "\x01", "=", oneByte(wantFrameSum("\x00"))} {
				longer = append(longer, stream+b)
			}
		}
		streams = longer
		for _, stream := range streams {
			for cuts := range 1 << (len(stream) - 1) {
				pieces := []string{""}
				for at := range len(stream) {
					pieces[len(pieces)-1] += stream[at : at+1]
					if cuts>>at&1 == 1 {
						pieces = append(pieces, "")
					}
				}
				asWhole(t, "short", pieces)
			}
		}
	}
}

func TestWhatIsReadOfLongStreamsHangsOnNoCuts(t *testing.T) {
	r := rand.New(rand.NewSource(143))
	bad, full := 0, 0
	for range 2000 {
		stream := drawnStream(r, 300+r.Intn(3000))
		asWhole(t, "drawn", drawnPieces(r, stream))
		texts, _, isBad := wantUnframed(stream)
		if isBad {
			bad++
		}
		if len(texts) > 39 {
			full++
		}
	}
	if min(bad, full) < 50 {
		t.Error("too few are bad or have no room:", bad, full)
	}
	long := strings.Repeat(wantFrame(strings.Repeat("~", 60)), 286)[:18000]
	asWhole(t, "sixty of MaxStream", inPieces(long, 300))
	asWhole(t, "sixty of MaxStream, bad in the end", inPieces(long[:17999]+"x", 300))
}

// Also where texts are taken between the pieces nothing is lost, and all come in order.
func TestWhatIsTakenHangsOnNoCuts(t *testing.T) {
	r := rand.New(rand.NewSource(144))
	for range 2000 {
		stream := drawnStream(r, 300+r.Intn(1000))
		texts, rest, isBad := wantUnframed(stream)
		var taken []string
		reader := impl.NewReader()
		for _, piece := range inPieces(stream, 1+r.Intn(100)) {
			reader, _ = impl.FeedReader(reader, piece)
			for len(reader.Got) > r.Intn(6) {
				var text string
				reader, text, _ = impl.TakeFrame(reader)
				taken = append(taken, text)
			}
		}
		taken = append(taken, reader.Got...)
		if !slices.Equal(taken, append([]string{""}, texts...)) || reader.Rest != rest || reader.Bad != isBad {
			t.Errorf("of %q: %q, %q, %v; want %q, %q, %v", stream, taken, reader.Rest, reader.Bad, texts, rest, isBad)
		}
	}
}

func TestFeedAllOfManyPieces(t *testing.T) {
	if r, ok := impl.FeedAll(nil); !sameReader(r, impl.Reader{Got: []string{""}}) || !ok {
		t.Errorf("FeedAll of none = %s, %v", shown(r), ok)
	}
	for many := range 64 {
		for _, piece := range []string{"", "~", "\x00", "x", emptyFrame, wantFrame("ab"), strings.Repeat(emptyFrame, 100)} {
			pieces := slices.Repeat([]string{piece}, many)
			want, okWant := wantFedAll(pieces)
			if r, ok := impl.FeedAll(pieces); !sameReader(r, want) || ok != okWant || ok != (many <= 60) {
				t.Errorf("FeedAll of %d times %q = %s, %v; want %s, %v", many, piece, shown(r), ok, shown(want), okWant)
			}
		}
	}
}

func TestFeedAllOfAPieceThatIsTooLong(t *testing.T) {
	for _, long := range []int{300, 301, 302, 1 << 16} {
		for _, fill := range []string{emptyFrame, "x", "~"} {
			for _, ahead := range []string{"", "~", "x", framesOf("a")} {
				for at := range 60 {
					pieces := slices.Repeat([]string{""}, 60)
					pieces[0] = ahead
					pieces[at] = strings.Repeat(fill, long)[:long]
					want, okWant := wantFedAll(pieces)
					if r, ok := impl.FeedAll(pieces); !sameReader(r, want) || ok != okWant || ok != (long <= 300) {
						t.Errorf("piece %d of %d times %q, behind %q: %s, %v; want %s, %v", at, long, fill, ahead, shown(r), ok, shown(want), okWant)
					}
				}
			}
		}
	}
}

func TestFeedAllIsFeedReaderEach(t *testing.T) {
	streams := manyStreams()
	var names []string
	for name := range streams {
		names = append(names, name)
	}
	slices.Sort(names)
	r := rand.New(rand.NewSource(145))
	for i := range 2000 {
		var pieces []string
		for range r.Intn(6) {
			pieces = append(pieces, streams[names[r.Intn(len(names))]])
		}
		want, okWant := wantFedAll(pieces)
		if got, ok := impl.FeedAll(pieces); !sameReader(got, want) || ok != okWant {
			t.Errorf("%d: FeedAll(%q) = %s, %v; want %s, %v", i, pieces, shown(got), ok, shown(want), okWant)
		}
		reader := impl.NewReader()
		for _, piece := range pieces {
			reader = fed(t, "each", reader, piece)
		}
		if !sameReader(reader, want) {
			t.Errorf("FeedReader each of %q = %s; want %s", pieces, shown(reader), shown(want))
		}
	}
}
