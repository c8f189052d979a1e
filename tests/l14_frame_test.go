package tests

import (
	"math/rand"
	"slices"
	"strings"
	"testing"

	"loop.example/g00333/impl"
)

func TestLimitsOfFrames(t *testing.T) {
	if impl.MaxFrame != 60 || impl.MaxStream != 300 {
		t.Error(impl.MaxFrame, impl.MaxStream)
	}
}

func TestFrameSumByHand(t *testing.T) {
	for _, row := range []struct {
		text string
		want int
	}{
		{"", 1},
		{"\x00", 31}, {"\xff", 35}, {"~", 157}, {"_", 126}, {"\xdb", 250}, {"\xdc", 0}, {"\xdd", 1}, {"a", 128},
		{"ab", 50}, {"ba", 80}, {"abc", 143}, {"\x00\x00", 208}, {"~~", 224}, {"hello", 94},
		{strings.Repeat("\x00", 60), 64}, {strings.Repeat("\x00", 59) + "\x01", 65}, {"\x01" + strings.Repeat("\x00", 59), 228},
		{strings.Repeat("\xff", 60), 223}, {strings.Repeat("~", 60), 178},
		{allBytes()[0], 170},
	} {
		if got, ok := impl.FrameSum(row.text); got != row.want || !ok {
			t.Errorf("FrameSum(%q) = %d, %v; want %d, true", row.text, got, ok, row.want)
		}
		if want := wantFrameSum(row.text); want != row.want {
			t.Errorf("the reference tells %d of %q; by hand it is %d", want, row.text, row.want)
		}
	}
}

func TestFrameOfByHand(t *testing.T) {
	for text, want := range map[string]string{
		"":                         "~\x00\x01",
		"\x00":                     "~\x01\x00\x1f",
		"~":                        "~\x01~\x9d",
		"_":                        "~\x01_~",
		"\xdc":                     "~\x01\xdc\x00",
		"\xff":                     "~\x01\xff\x23",
		"ab":                       "~\x02ab2",
		"ba":                       "~\x02baP",
		"hello":                    "~\x05hello^",
		strings.Repeat("\x00", 60): "~<" + strings.Repeat("\x00", 60) + "@",
		strings.Repeat("~", 60):    "~<" + strings.Repeat("~", 60) + "\xb2",
	} {
		if got, ok := impl.FrameOf(text); got != want || !ok {
			t.Errorf("FrameOf(%q) = %q, %v; want %q, true", text, got, ok, want)
		}
	}
}

func framed(t *testing.T, text string) {
	t.Helper()
	isGood := len(text) < 61
	sum, frame := 0, ""
	if isGood {
		sum, frame = wantFrameSum(text), wantFrame(text)
	}
	if got, ok := impl.FrameSum(text); got != sum || ok != isGood {
		t.Errorf("FrameSum(%.80q) = %d, %v; want %d, %v", text, got, ok, sum, isGood)
	}
	if got, ok := impl.FrameOf(text); got != frame || ok != isGood {
		t.Errorf("FrameOf(%.80q) = %q, %v; want %q, %v", text, got, ok, frame, isGood)
	}
}

func TestFramesOfAllBytesAndLengths(t *testing.T) {
	for b := range 256 {
		framed(t, oneByte(b))
		framed(t, oneByte(b)+"a")
		framed(t, "a"+oneByte(b))
		for _, long := range []int{59, 60, 61} {
			framed(t, strings.Repeat(oneByte(b), long))
		}
	}
	for long := range 130 {
		framed(t, strings.Repeat("~\x00\xffz", 40)[:long])
	}
	for _, text := range allBytes() {
		framed(t, text)
	}
	for _, long := range []int{61, 255, 256, 257, 300, 301, 316, 512, 1 << 16} {
		framed(t, strings.Repeat("a", long))
	}
}

func unframed(t *testing.T, name, stream string) ([]string, string, bool) {
	t.Helper()
	texts, rest, isBad, ok := impl.UnframeAll(stream)
	wantTexts, wantRest, wantBad := wantUnframed(stream)
	if !slices.Equal(texts, wantTexts) || rest != wantRest || isBad != wantBad || !ok {
		t.Errorf("%s: UnframeAll(%q) = %q, %q, %v, %v; want %q, %q, %v, true", name, stream, texts, rest, isBad, ok, wantTexts, wantRest, wantBad)
	}
	return texts, rest, isBad
}

func TestUnframeAllByHand(t *testing.T) {
	long := "~<" + strings.Repeat("\x00", 60)
	for _, row := range []struct {
		name, stream string
		texts        []string
		rest         string
		isBad        bool
	}{
		{"nothing", "", nil, "", false},
		{"an empty text", "~\x00\x01", []string{""}, "", false},
		{"one frame", "~\x02ab2", []string{"ab"}, "", false},
		{"two frames", "~\x02ab2~\x01_~", []string{"ab", "_"}, "", false},
		{"a text of two marks", "~\x02~~\xe0", []string{"~~"}, "", false},
		{"an empty text's frame in a frame", "~\x03~\x00\x01" + oneByte(wantFrameSum("~\x00\x01")), []string{"~\x00\x01"}, "", false},

		{"a mark", "~", nil, "~", false},
		{"a mark behind a frame", "~\x02ab2~", []string{"ab"}, "~", false},
		{"a count of none", "~\x00", nil, "~\x00", false},
		{"a count of MaxFrame", "~<", nil, "~<", false},
		{"a count of MaxFrame behind a frame", "~\x00\x01~<", []string{""}, "~<", false},
		{"all but the sum", "~\x02ab", nil, "~\x02ab", false},
		{"sixty without the sum", long, nil, long, false},
		{"sixty", long + "@", []string{long[2:]}, "", false},

		{"a first byte of another", "x", nil, "", true},
		{"a first byte of another ahead of a frame", "x~\x02ab2", nil, "", true},
		{"a first byte of another behind a frame", "~\x02ab2x", []string{"ab"}, "", true},
		{"between two frames", "~\x02ab2x~\x02ab2", []string{"ab"}, "", true},
		{"a count of one more", "~=", nil, "", true},
		{"a count of one more behind frames", "~\x02ab2~\x00\x01~=", []string{"ab", ""}, "", true},
		{"a count of 126", "~~", nil, "", true},
		{"a count of 255", "~\xff", nil, "", true},
		{"a wrong sum", "~\x02ab3", nil, "", true},
		{"a wrong sum of an empty text", "~\x00\x00", nil, "", true},
		{"a wrong sum of sixty", long + "A", nil, "", true},
		{"a wrong sum behind frames", "~\x00\x01~\x02ab2~\x02ab3~\x00\x01", []string{"", "ab"}, "", true},
		{"a sum that is 251 more", "~\x01\xdc\xfb", nil, "", true},
		{"the sum of an empty text 252", "~\x00\xfc", nil, "", true},

		{"a wrong sum whose frame is not whole", "~\x03ab3", nil, "~\x03ab3", false},
		{"a right sum of fewer bytes", "~\x03ab2", nil, "~\x03ab2", false},
		{"and whole", "~\x03ab3\x00", nil, "", true},
	} {
		texts, rest, isBad, ok := impl.UnframeAll(row.stream)
		if !slices.Equal(texts, row.texts) || rest != row.rest || isBad != row.isBad || !ok {
			t.Errorf("%s: UnframeAll(%q) = %q, %q, %v, %v; want %q, %q, %v, true", row.name, row.stream, texts, rest, isBad, ok, row.texts, row.rest, row.isBad)
		}
		unframed(t, row.name, row.stream)
	}
}

func TestUnframeAllOfEveryBeginning(t *testing.T) {
	for name, stream := range manyStreams() {
		stream = stream[:min(len(stream), 300)]
		told, isOver := 0, false
		for long := range len(stream) + 1 {
			texts, _, isBad := unframed(t, name, stream[:long])
			if len(texts) < told || isOver && (!isBad || len(texts) > told) {
				t.Errorf("%s, the first %d bytes: %d texts and bad %v; %d and %v ahead of it", name, long, len(texts), isBad, told, isOver)
			}
			told, isOver = len(texts), isBad
		}
	}
}

func TestUnframeAllTellsWhatWasFramed(t *testing.T) {
	texts := append(allBytes(), "", "~", "~~", emptyFrame, "a", strings.Repeat("~", 60))
	for _, a := range texts {
		for _, b := range texts {
			for _, c := range texts {
				var stream strings.Builder
				for _, text := range []string{a, b, c} {
					frame, _ := impl.FrameOf(text)
					stream.WriteString(frame)
				}
				for _, rest := range []string{"", "~", "~<", "~\x02ab"} {
					got, left, isBad, ok := impl.UnframeAll(stream.String() + rest)
					if !slices.Equal(got, []string{a, b, c}) || left != rest || isBad || !ok {
						t.Errorf("of %q and %q: %q, %q, %v, %v", []string{a, b, c}, rest, got, left, isBad, ok)
					}
				}
			}
		}
	}
}

func TestUnframeAllOfEachFirstByteCountAndSum(t *testing.T) {
	for _, ahead := range []string{"", wantFrame("ab"), strings.Repeat(emptyFrame, 41)} {
		told := strings.Count(ahead, "~")
		for b := range 256 {
			first := ahead + oneByte(b)
			if texts, rest, isBad := unframed(t, "a first byte", first); len(texts) != told || isBad != (b != 126) || (rest == "") == (b == 126) {
				t.Errorf("a first byte %d behind %d frames: %d, %q, %v", b, told, len(texts), rest, isBad)
			}
			count := ahead + "~" + oneByte(b)
			if texts, rest, isBad := unframed(t, "a count", count); len(texts) != told || isBad != (b > 60) || (rest == "") == (b <= 60) {
				t.Errorf("a count %d behind %d frames: %d, %q, %v", b, told, len(texts), rest, isBad)
			}
			for _, text := range []string{"", "a", "\xdc", strings.Repeat("\xff", 60)} {
				sum := ahead + "~" + oneByte(len(text)) + text + oneByte(b)
				isSum := b == wantFrameSum(text)
				if texts, rest, isBad := unframed(t, "a sum", sum); isBad == isSum || (len(texts) == told+1) != isSum || rest != "" {
					t.Errorf("a sum %d of %q behind %d frames: %d, %q, %v", b, text, told, len(texts), rest, isBad)
				}
			}
		}
	}
}

// A byte of a frame that is another one is told by its sum, or by its head.
func TestUnframeAllOfOneByteChanged(t *testing.T) {
	stream := framesOf("ab", "~", strings.Repeat("\x00", 20))
	for at := range len(stream) {
		for b := range 256 {
			changed := stream[:at] + oneByte(b) + stream[at+1:]
			texts, rest, isBad := unframed(t, "changed", changed)
			if stream[at] != byte(b) && !isBad && rest == "" && len(texts) == 3 {
				// Bytes that are 251 apart have one sum.
				if apart := int(stream[at]) - b; apart != 251 && apart != -251 {
					t.Errorf("byte %d is %d: all is told: %q", at, b, texts)
				}
			}
		}
	}
}

func TestUnframeAllOfMaxStream(t *testing.T) {
	hundred := strings.Repeat(emptyFrame, 100)
	if texts, rest, isBad, ok := impl.UnframeAll(hundred); len(texts) != 100 || rest != "" || isBad || !ok {
		t.Errorf("of 300 bytes: %d, %q, %v, %v", len(texts), rest, isBad, ok)
	}
	for _, ahead := range []string{hundred, "x", "~=", "~", "~\x00\x00", framesOf("ab", "c")} {
		for _, fill := range []string{"~", emptyFrame, "a", "\x00", wantFrame(strings.Repeat("b", 60))} {
			for _, long := range []int{299, 300, 301, 302, 362, 363, 600, 1 << 12, 1 << 16} {
				stream := (ahead + strings.Repeat(fill, long))[:long]
				if long <= 300 {
					unframed(t, "not too long", stream)
				} else if texts, rest, isBad, ok := impl.UnframeAll(stream); texts != nil || rest != "" || isBad || ok {
					t.Errorf("of %d bytes: %.80q, %q, %v, %v", long, texts, rest, isBad, ok)
				}
			}
		}
	}
}

func TestUnframeAllOfAllShortStreams(t *testing.T) {
	letters := "~\x00\x01\x02a<=" + oneByte(wantFrameSum("a")) + oneByte(wantFrameSum("\x01"))
	streams := []string{""}
	for range 5 {
		var longer []string
		for _, stream := range streams {
			unframed(t, "short", stream)
			for i := range len(letters) {
				longer = append(longer, stream+letters[i:i+1])
			}
		}
		streams = longer
	}
	for _, stream := range streams {
		unframed(t, "short", stream)
	}
}

func TestUnframeAllOfDrawnStreams(t *testing.T) {
	r := rand.New(rand.NewSource(141))
	bad, rests, whole := 0, 0, 0
	for range 20000 {
		_, rest, isBad := unframed(t, "drawn", drawnStream(r, r.Intn(301)))
		switch {
		case isBad:
			bad++
		case rest != "":
			rests++
		default:
			whole++
		}
	}
	if min(bad, rests, whole) < 1000 {
		t.Error("too few are bad, have a rest, or are whole:", bad, rests, whole)
	}
}

// What is left may become a frame: each rest has bytes that make it one.
func TestRestsBecomeFrames(t *testing.T) {
	for _, rest := range beginnings() {
		if texts, left, isBad := unframed(t, "rest", rest); len(texts) != 0 || left != rest || isBad {
			t.Errorf("%q: %q, %q, %v", rest, texts, left, isBad)
		}
		head := (rest + "\x00")[:2]
		text := (rest + strings.Repeat("x", 62))[2 : 2+int(head[1])]
		whole := head + text + oneByte(wantFrameSum(text))
		if texts, left, isBad := unframed(t, "whole", whole); !slices.Equal(texts, []string{text}) || left != "" || isBad || !strings.HasPrefix(whole, rest) {
			t.Errorf("%q became %q: %q, %q, %v", rest, whole, texts, left, isBad)
		}
	}
}
