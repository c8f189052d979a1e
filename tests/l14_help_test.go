package tests

import (
	"fmt"
	"maps"
	"math/rand"
	"slices"
	"strconv"
	"strings"

	"loop.example/g00333/impl"
)

// emptyFrame is the frame of the empty text, worked out by hand.
const emptyFrame = "~\x00\x01"

// wantFrameSum adds up from the last byte on what each one brings in the end.
func wantFrameSum(s string) int {
	sum, power := 0, 1
	for i := len(s) - 1; i >= 0; i-- {
		sum = (sum + power*int(s[i])) % 251
		power = power * 31 % 251
	}
	return (sum + power) % 251
}

func oneByte(n int) string {
	return string([]byte{byte(n)})
}

func wantFrame(s string) string {
	return "~" + oneByte(len(s)) + s + oneByte(wantFrameSum(s))
}

func framesOf(texts ...string) string {
	var frames strings.Builder
	for _, text := range texts {
		frames.WriteString(wantFrame(text))
	}
	return frames.String()
}

// wantIsBeginning tries all lengths that a frame may have.
func wantIsBeginning(s string) bool {
	for n := range 61 {
		head := "~" + oneByte(n)
		if len(s) < n+3 && (strings.HasPrefix(head, s) || strings.HasPrefix(s, head)) {
			return true
		}
	}
	return false
}

// wantFirstFrame likewise: the text of the whole frame that a stream begins with.
func wantFirstFrame(s string) (string, bool) {
	for n := range 61 {
		if len(s) < n+3 {
			break
		}
		if text := s[2 : n+2]; strings.HasPrefix(s, wantFrame(text)) {
			return text, true
		}
	}
	return "", false
}

func wantUnframed(s string) (texts []string, rest string, isBad bool) {
	for {
		text, isWhole := wantFirstFrame(s)
		if !isWhole {
			break
		}
		texts = append(texts, text)
		s = s[len(text)+3:]
	}
	if s != "" && !wantIsBeginning(s) {
		return texts, "", true
	}
	return texts, s, false
}

func wantGoodReader(r impl.Reader) bool {
	for _, text := range r.Got {
		if len(text) > 60 {
			return false
		}
	}
	return len(r.Got) < 41 && (r.Rest == "" || !r.Bad && wantIsBeginning(r.Rest))
}

func wantFed(r impl.Reader, s string) (impl.Reader, bool) {
	if !wantGoodReader(r) || len(s) > 300 {
		return impl.Reader{}, false
	}
	if r.Bad {
		return r, true
	}
	texts, rest, isBad := wantUnframed(r.Rest + s)
	got := slices.Concat(r.Got, texts)
	return impl.Reader{Rest: rest, Got: got[:min(len(got), 40)], Bad: isBad}, true
}

func wantTaken(r impl.Reader) (impl.Reader, string, bool) {
	if !wantGoodReader(r) || len(r.Got) == 0 {
		return impl.Reader{}, "", false
	}
	return impl.Reader{Rest: r.Rest, Got: slices.Clone(r.Got[1:]), Bad: r.Bad}, r.Got[0], true
}

// wantFedAll reads all pieces as one text, whatever the cuts are.
func wantFedAll(pieces []string) (impl.Reader, bool) {
	if len(pieces) > 60 || slices.ContainsFunc(pieces, func(piece string) bool { return len(piece) > 300 }) {
		return impl.Reader{}, false
	}
	texts, rest, isBad := wantUnframed(strings.Join(pieces, ""))
	got := append([]string{""}, texts...)
	return impl.Reader{Rest: rest, Got: got[:min(len(got), 40)], Bad: isBad}, true
}

// shown is a reader as a failed test tells it, cut off where it is very long.
func shown(r impl.Reader) string {
	return fmt.Sprintf("{%.100q %.100q %v}", r.Rest, r.Got[:min(len(r.Got), 50)], r.Bad)
}

func sameReader(a, b impl.Reader) bool {
	return a.Rest == b.Rest && a.Bad == b.Bad && slices.Equal(a.Got, b.Got)
}

// allBytes is texts that have all bytes among them, in frames of sixty at most.
func allBytes() []string {
	var l []string
	for from := 0; from < 256; from += 60 {
		var text []byte
		for b := from; b < min(from+60, 256); b++ {
			text = append(text, byte(b))
		}
		l = append(l, string(text))
	}
	return l
}

// beginnings is of frames of some lengths each beginning that is not whole yet.
func beginnings() []string {
	l := []string{"~"}
	for _, n := range []int{0, 1, 2, 59, 60} {
		frame := wantFrame(strings.Repeat("~b", 30)[:n])
		for long := 2; long < len(frame); long++ {
			l = append(l, frame[:long])
		}
	}
	return l
}

// badPlaces is what no frame begins with, with whole frames behind some of them that are not to be told.
func badPlaces() map[string]string {
	l := map[string]string{
		"a count of one more":                "~=",
		"a count of one more, and all of it": "~=" + strings.Repeat("a", 61) + oneByte(wantFrameSum(strings.Repeat("a", 61))),
		"a count of 126":                     "~~",
		"a count of 255":                     "~\xff",
		"a wrong sum of no bytes":            "~\x00\x00",
		"a wrong sum of one byte":            "~\x01a\x81",
		"another sum of two bytes":           "~\x02ab" + oneByte(31),
		"a wrong sum of sixty":               "~<" + strings.Repeat("\x00", 60) + oneByte(65),
		"a sum 251 more":                     "~\x01\xdc\xfb",
		"no mark":                            "\x02ab2",
		"a mark too much":                    "~" + emptyFrame,
	}
	for _, b := range []int{0, 1, 60, 125, 127, 254, 255} {
		l["a first byte "+strconv.Itoa(b)] = oneByte(b)
	}
	for name, place := range maps.Clone(l) {
		l[name+", and a frame"] = place + wantFrame("behind")
	}
	return l
}

// goodStreams is none that is bad, of at most 300 bytes.
func goodStreams() map[string]string {
	l := map[string]string{
		"nothing":                  "",
		"an empty text":            emptyFrame,
		"one frame":                wantFrame("ab"),
		"three frames":             framesOf("ab", "", "hello"),
		"a hundred empty texts":    strings.Repeat(emptyFrame, 100),
		"four long ones":           framesOf(strings.Repeat("\x00", 60), strings.Repeat("~", 60), strings.Repeat("\xff", 60), strings.Repeat("<", 60)),
		"marks in a frame":         framesOf("~", "~~", "~\x00\x01", "a~b"),
		"a sum that is a mark":     framesOf("_", "_"),
		"frames in a frame":        framesOf(framesOf("ab", "c"), framesOf("")),
		"a text of a frame's head": framesOf("~\x02", "~<", "~="),
		"all bytes, from 0 on":     framesOf(allBytes()[:4]...),
		"all bytes, up to 255":     framesOf(allBytes()[1:]...),
		"of rising lengths":        framesOf("", "a", "ab", "abc", "abcd", "abcde", "abcdef", "abcdefg"),
	}
	for i, rest := range beginnings() {
		l["beginning "+strconv.Itoa(i)] = rest
		l["beginning "+strconv.Itoa(i)+" behind frames"] = framesOf("x", "yz~") + rest
	}
	return l
}

// manyStreams is good ones, bad ones, and such as drawn bytes were put into.
func manyStreams() map[string]string {
	l := goodStreams()
	for name, place := range badPlaces() {
		l[name] = place
		l[name+", behind frames"] = framesOf("ab", "~", "") + place
		l[name+", behind more than there is room for"] = strings.Repeat(emptyFrame, 50) + place
	}
	r := rand.New(rand.NewSource(14))
	for i := range 150 {
		l["drawn "+strconv.Itoa(i)] = drawnStream(r, 300)
	}
	return l
}

func drawnText(r *rand.Rand) string {
	bytes := "~\x00\x01\x02<=ab\xff"
	text := make([]byte, r.Intn([]int{1, 4, 10, 61}[r.Intn(4)]))
	for i := range text {
		text[i] = bytes[r.Intn(len(bytes))]
		if r.Intn(4) == 0 {
			text[i] = byte(r.Intn(256))
		}
	}
	return string(text)
}

// drawnStream is of at most so many bytes frames, often with a fault somewhere or the end cut off.
func drawnStream(r *rand.Rand, most int) string {
	var stream []byte
	for len(stream) < most && r.Intn(30) > 0 {
		stream = append(stream, wantFrame(drawnText(r))...)
	}
	stream = stream[:min(len(stream), most)]
	if len(stream) == 0 {
		return ""
	}
	at := r.Intn(len(stream))
	switch r.Intn(5) {
	case 0:
		stream[at] = byte(r.Intn(256))
	case 1:
		stream = slices.Delete(stream, at, at+1)
	case 2:
		stream[at] = '~'
	case 3:
		stream = stream[:at]
	}
	return string(stream)
}

// inPieces cuts a stream in pieces of one length, but for the last one.
func inPieces(stream string, long int) []string {
	var pieces []string
	for len(stream) > long {
		pieces = append(pieces, stream[:long])
		stream = stream[long:]
	}
	return append(pieces, stream)
}

// drawnPieces cuts a stream anywhere, with empty pieces too; no piece has more than 300 bytes.
func drawnPieces(r *rand.Rand, stream string) []string {
	var pieces []string
	most := []int{1, 3, 20, 70, 300}[r.Intn(5)]
	for stream != "" {
		long := min(r.Intn(most+1), len(stream))
		pieces = append(pieces, stream[:long])
		stream = stream[long:]
	}
	return pieces
}

func manyTexts(many int) []string {
	var l []string
	for i := range many {
		l = append(l, "text "+strconv.Itoa(i))
	}
	return l
}

func goodReaders() map[string]impl.Reader {
	l := map[string]impl.Reader{
		"zero":                   {},
		"bad":                    {Bad: true},
		"bad, with texts":        {Got: []string{"a", "", "~"}, Bad: true},
		"bad, no room":           {Got: manyTexts(40), Bad: true},
		"new":                    {Got: []string{""}},
		"a text of sixty":        {Got: []string{strings.Repeat("x", 60)}},
		"forty of sixty":         {Rest: "~", Got: slices.Repeat([]string{strings.Repeat("\xff", 60)}, 40)},
		"an empty list":          {Got: []string{}},
		"a beginning, no room":   {Rest: wantFrame("hello")[:5], Got: manyTexts(40)},
		"a beginning, room of 1": {Rest: wantFrame("hello")[:5], Got: manyTexts(39)},
	}
	for _, many := range []int{1, 2, 38, 39, 40} {
		l["texts "+strconv.Itoa(many)] = impl.Reader{Got: manyTexts(many)}
	}
	for i, rest := range beginnings() {
		l["beginning "+strconv.Itoa(i)] = impl.Reader{Rest: rest, Got: manyTexts(i % 41)}
	}
	return l
}

func wrongReaders() map[string]impl.Reader {
	l := map[string]impl.Reader{
		"41 texts":                       {Got: manyTexts(41)},
		"41 texts, bad":                  {Got: manyTexts(41), Bad: true},
		"very many texts":                {Got: make([]string, 1<<16)},
		"a text of 61":                   {Got: []string{strings.Repeat("x", 61)}},
		"a text of 61, bad":              {Got: []string{strings.Repeat("x", 61)}, Bad: true},
		"the last text of 61":            {Rest: "~", Got: append(manyTexts(39), strings.Repeat("x", 61))},
		"a whole frame":                  {Rest: wantFrame("ab")},
		"a whole empty frame":            {Rest: emptyFrame},
		"a whole frame of sixty":         {Rest: wantFrame(strings.Repeat("x", 60))},
		"more than a frame":              {Rest: wantFrame("ab") + "~"},
		"two frames":                     {Rest: framesOf("ab", "c")},
		"two frames of bytes alike":      {Rest: strings.Repeat(emptyFrame, 2)},
		"frames, as long as a beginning": {Rest: strings.Repeat(emptyFrame, 20) + "~"},
		"very many frames":               {Rest: strings.Repeat(emptyFrame, 1<<16)},
		"very many bytes":                {Rest: "~<" + strings.Repeat("a", 1<<20)},
		"one byte too many":              {Rest: "~<" + strings.Repeat("a", 61)},
	}
	for name, place := range badPlaces() {
		l[name] = impl.Reader{Rest: place, Got: manyTexts(3)}
		l[name+", behind a frame"] = impl.Reader{Rest: emptyFrame + place}
	}
	for i, rest := range beginnings() {
		l["beginning "+strconv.Itoa(i)+", bad"] = impl.Reader{Rest: rest, Got: manyTexts(2), Bad: true}
		l["beginning "+strconv.Itoa(i)+" behind a frame"] = impl.Reader{Rest: emptyFrame + rest}
	}
	return l
}
