package tests

import (
	"math/rand"
	"regexp"
	"slices"
	"strconv"
	"strings"
	"testing"

	"loop.example/g00333/impl"
)

func script(lines ...string) string {
	text := ""
	for _, line := range lines {
		text += line + "\n"
	}
	return text
}

// The reference knows each line by its form alone, and asks the references of the other chapters.
type lineForm struct {
	form *regexp.Regexp
	told func(b impl.Broker, w []string) (string, impl.Broker)
}

var lineForms = []lineForm{
	formOf("fan N ([1-4]) N W", wantFanLine),
	formOf("post N W", func(b impl.Broker, w []string) (string, impl.Broker) {
		return wantPostLine(b, w[1], saying(w[0]))
	}),
	formOf("text N W W", func(b impl.Broker, w []string) (string, impl.Broker) {
		if len(w[1]) > 30 {
			return wantPostLine(b, w[2], "")
		}
		return wantPostLine(b, w[2], saying(w[0]+" "+w[1]))
	}),
	formOf("take N", wantTakeLine),
	formOf("lost N", func(b impl.Broker, w []string) (string, impl.Broker) {
		if f, ok := wantFan(b, decimal(w[0])); ok {
			return "lost " + strconv.Itoa(f.Lost), b
		}
		return "no", b
	}),
	formOf("schema T", stays(wantSchemaLine)),
	formOf("term W T", stays(wantTermLine)),
	formOf("find W T", stays(wantFindLine)),
	formOf("fits W W", stays(wantFitsLine)),
}

// formOf: N is a number, W a word, T all behind.
func formOf(text string, told func(b impl.Broker, w []string) (string, impl.Broker)) lineForm {
	text = strings.NewReplacer("N", `(0|-?[1-9][0-9]{0,8})`, "W", `([^ ]*)`, "T", `(.*)`).Replace(text)
	return lineForm{form: regexp.MustCompile(`^(?s:` + text + `)$`), told: told}
}

func stays(told func(w []string) string) func(b impl.Broker, w []string) (string, impl.Broker) {
	return func(b impl.Broker, w []string) (string, impl.Broker) { return told(w), b }
}

func wantFanLine(b impl.Broker, w []string) (string, impl.Broker) {
	f := impl.Fan{Who: decimal(w[0]), Pattern: w[3], View: schema("{n:1! num}")}
	n := decimal(w[2])
	f.Filter.Wants = []impl.Want{map[string]impl.Want{
		"1": {Kind: impl.WantEq, No: 1, Num: n},
		"2": {Kind: impl.WantLt, No: 1, Num: n},
		"3": {Kind: impl.WantGt, No: 1, Num: n},
		"4": {Kind: impl.WantHas, No: n},
	}[w[1]]}
	if added, ok := wantAdded(b, f); ok {
		return "ok", added
	}
	return "no", b
}

func wantPostLine(b impl.Broker, topic, bytes string) (string, impl.Broker) {
	b, code, no, _ := wantPublished(b, impl.Post{Topic: topic, Bytes: bytes})
	if code > 0 {
		return "code " + strconv.Itoa(code), b
	}
	return "no " + strconv.Itoa(no), b
}

func wantTakeLine(b impl.Broker, w []string) (string, impl.Broker) {
	left, n, ok := wantTook(b, decimal(w[0]))
	if !ok {
		return "no", b
	}
	words := []string{"note", strconv.Itoa(n.No), n.Topic}
	for i := range len(n.Bytes) {
		words = append(words, strconv.Itoa(int(n.Bytes[i])))
	}
	return strings.Join(words, " "), left
}

func wantSchemaLine(w []string) string {
	s, at, ok := wantRead(w[0])
	if !ok {
		return "bad " + strconv.Itoa(at)
	}
	if text := wantText(s); len(text) <= 400 {
		return "is " + text
	}
	return "bad 0"
}

func wantTermLine(w []string) string {
	if !wantIsText(w[0]) || !wantIsText(w[1]) {
		return "no"
	}
	l, are, ok := wantUnified(w[0], w[1])
	if !ok {
		return "no"
	}
	if !are {
		return "not"
	}
	told := "with"
	for i, v := range itself() {
		if l[i] != v {
			told += " " + v + "=" + l[i]
		}
	}
	return told
}

func wantFindLine(w []string) string {
	if !wantHasBytes(w[0], 1, 200) || !wantHasBytes(w[1], 0, 200) {
		return "no"
	}
	told := "at"
	for _, at := range wantPlaces(w[1], w[0]) {
		told += " " + strconv.Itoa(at)
	}
	return told
}

func wantFitsLine(w []string) string {
	if !wantGoodPattern(w[0]) || !wantGoodTopic(w[1]) {
		return "no"
	}
	if wantTopicFits(w[0], w[1]) {
		return "yes"
	}
	return "not"
}

const twoTopics = "topic a 0 {n:1! num,s:2 text}; topic a/b 0 {n:1! num,s:2 text}"

func wantAnswer(b impl.Broker, line string) (string, impl.Broker) {
	for _, x := range lineForms {
		if w := x.form.FindStringSubmatch(line); w != nil {
			return x.told(b, w[1:])
		}
	}
	return "what", b
}

// wantRunLines tells the answers and the broker in the end; false where the text is no script.
func wantRunLines(text string) (string, impl.Broker, bool) {
	many := strings.Count(text, "\n")
	if len(text) > 2500 || many > 80 || text != "" && !strings.HasSuffix(text, "\n") {
		return "", impl.Broker{}, false
	}
	b, told := broker(twoTopics), ""
	for line := range strings.SplitAfterSeq(text, "\n") {
		if line != "" {
			var its string
			its, b = wantAnswer(b, strings.TrimSuffix(line, "\n"))
			told += its + "\n"
		}
	}
	return told, b, true
}

// ranAs holds both functions against the reference.
func ranAs(t *testing.T, text string) (string, impl.Broker, bool) {
	t.Helper()
	want, wantLeft, okWant := wantRunLines(text)
	got := impl.RunBroker(text)
	if got != want {
		t.Errorf("RunBroker(%.300q) = %.500q; want %.500q", text, got, want)
	}
	b, ok := impl.BrokerOf(text)
	if !sameBroker(b, wantLeft) || ok != okWant {
		t.Errorf("BrokerOf(%.300q) = %s, %v; want %s, %v", text, shownBroker(b), ok, shownBroker(wantLeft), okWant)
	}
	return got, b, ok
}

// answersOf is the answers without the bytes 10 behind them.
func answersOf(text string) []string {
	l := strings.Split(text, "\n")
	return l[:len(l)-1]
}

// linesAs is the answers to lines that are a script.
func linesAs(t *testing.T, lines ...string) []string {
	t.Helper()
	told, _, ok := ranAs(t, script(lines...))
	l := answersOf(told)
	if !ok || len(l) != len(lines) {
		t.Fatalf("%.300q: %d answers to %d lines, %v", lines, len(l), len(lines), ok)
	}
	return l
}

// saidTo takes lines and their answers by turns, and runs them as one script.
func saidTo(t *testing.T, pairs ...string) {
	t.Helper()
	var lines, want []string
	for at := 0; at < len(pairs); at += 2 {
		lines, want = append(lines, pairs[at]), append(want, pairs[at+1])
	}
	for i, got := range linesAs(t, lines...) {
		if got != want[i] {
			t.Errorf("line %d, %.200q: %.300q; want %.300q", i, lines[i], got, want[i])
		}
	}
}

// alone runs a line by itself, and once more between lines of no form.
func alone(t *testing.T, line, want string) {
	t.Helper()
	if got := linesAs(t, line)[0]; got != want {
		t.Errorf("%.200q: %.300q; want %.300q", line, got, want)
	}
	if got := linesAs(t, "fly", line, "")[1]; got != want {
		t.Errorf("%.200q behind another line: %.300q; want %.300q", line, got, want)
	}
}

var (
	drawnPatterns = []string{"#", "#", "a", "a/b", "a/+", "a/#", "+", "+/b", "+/#", "b", "", "a/", "#/a", "A"}
	drawnNumbers  = []string{"0", "1", "-1", "5", "63", "64", "-65", "100", "101", "999999999", "-999999999"}
	wrongNumerals = []string{"", "-", "--1", "+1", "+0", "-0", "00", "01", "-01", "1-", "1a", "a", "1.0", "1e1", "0x1", "0b1", "1_0", "\x00", "1\x00", "\xff", "٣",
		"1234567890", "-1234567890", "1000000000", "-1000000000", "0000000001", "9223372036854775807", "-9223372036854775808", "9223372036854775808", "18446744073709551617", strings.Repeat("9", 100), "0" + strings.Repeat("0", 50)}
)

func oneAmong(r *rand.Rand, l []string) string {
	return l[r.Intn(len(l))]
}

func drawnWho(r *rand.Rand) string {
	if r.Intn(12) == 0 {
		return oneAmong(r, drawnNumbers)
	}
	return strconv.Itoa(r.Intn(5))
}

func drawnNumeral(r *rand.Rand) string {
	if r.Intn(3) == 0 {
		return oneAmong(r, drawnNumbers)
	}
	return strconv.Itoa(r.Intn(11) - 5)
}

func drawnName(r *rand.Rand) string {
	if r.Intn(8) == 0 {
		return oneAmong(r, []string{"b", "", "a/", "a/b/c", "+", "A"})
	}
	return oneAmong(r, []string{"a", "a/b"})
}

func drawnSaid(r *rand.Rand) string {
	long := []int{0, 1, 2, 5, 29, 30, 31}[r.Intn(7)]
	return randomOver(r, "ab\x00\xff\r{", long, long)
}

// drawnSource is a schema's text with blanks here and there, or one that is bent.
func drawnSource(r *rand.Rand) string {
	s := randomGoodSchema(r)
	text := strings.ReplaceAll(spread(tokensInAnyOrder(r, s, 0), randomGap(r, 6)), "\n", " ")
	if r.Intn(2) == 0 {
		at := r.Intn(len(text))
		text = text[:at] + randomOver(r, "{}[]:!, 01z\xff", 0, 1) + text[at+r.Intn(2):]
	}
	return text
}

func drawnTermLine(r *rand.Rand) string {
	one, other, _, _ := randomAlike(r)
	if r.Intn(3) == 0 {
		other = randomTerm(r, 1+r.Intn(8), 1, 6)
	}
	if r.Intn(8) == 0 {
		other += oneAmong(r, []string{")", " ", " a", "$", ",a"})
	}
	return "term " + one + " " + other
}

// drawnLine is of each kind, as it should be.
func drawnLine(r *rand.Rand) string {
	switch r.Intn(14) {
	case 0, 1:
		return "fan " + drawnWho(r) + " " + strconv.Itoa(1+r.Intn(4)) + " " + drawnNumeral(r) + " " + oneAmong(r, drawnPatterns)
	case 2:
		return "fan " + drawnWho(r) + " " + strconv.Itoa(r.Intn(6)) + " " + drawnNumeral(r) + " " + randomPattern(r)
	case 3, 4, 5:
		return "post " + drawnNumeral(r) + " " + drawnName(r)
	case 6:
		return "text " + drawnNumeral(r) + " " + drawnSaid(r) + " " + drawnName(r)
	case 7, 8:
		return "take " + drawnWho(r)
	case 9:
		return "lost " + drawnWho(r)
	case 10:
		return "schema " + drawnSource(r)
	case 11:
		return drawnTermLine(r)
	case 12:
		return "find " + randomOver(r, "ab", 0, 3) + " " + randomOver(r, "aab ", 0, 20)
	}
	topic := randomTopic(r)
	return "fits " + randomPatternOf(r, topic) + " " + topic
}

// bentLine is another line, most often of no form.
func bentLine(r *rand.Rand, line string) string {
	words := strings.Split(line, " ")
	at := r.Intn(len(words))
	switch r.Intn(7) {
	case 0:
		words[at] += " "
	case 1:
		words = slices.Delete(words, at, at+1)
	case 2:
		words = slices.Insert(words, at, oneAmong(r, []string{"1", "a", ""}))
	case 3:
		words[at] = strings.ToUpper(words[at])
	case 4:
		words[at] = oneAmong(r, wrongNumerals)
	case 5:
		return line[:r.Intn(len(line)+1)]
	case 6:
		words[at] += oneAmong(r, []string{"\r", "\t", "\x00", "\xff", "a", "0"})
	}
	return strings.Join(words, " ")
}

// drawnLines is at most so many lines that are a script.
func drawnLines(r *rand.Rand, most int) []string {
	var lines []string
	often := []int{3, 12, 1000}[r.Intn(3)]
	bytes := 0
	for len(lines) < most {
		line := drawnLine(r)
		if r.Intn(often) == 0 {
			line = bentLine(r, line)
		}
		if bytes += len(line) + 1; bytes > 2500 {
			break
		}
		lines = append(lines, line)
	}
	return lines
}

// drawnTalk is lines of a broker alone: fans ahead, then posts, and notes that are taken now and then.
func drawnTalk(r *rand.Rand, most int) []string {
	var lines []string
	for i := range 1 + r.Intn(4) {
		lines = append(lines, "fan "+strconv.Itoa(i)+" "+oneAmong(r, []string{"4 1", "4 2", "3 -3", "2 3", "1 0"})+" "+oneAmong(r, drawnPatterns[:9]))
	}
	for len(lines) < most {
		switch r.Intn(12) {
		case 0:
			lines = append(lines, "take "+strconv.Itoa(r.Intn(5)))
		case 1:
			lines = append(lines, "lost "+strconv.Itoa(r.Intn(5)))
		case 2, 3:
			lines = append(lines, "text "+strconv.Itoa(r.Intn(11)-5)+" x "+drawnName(r))
		default:
			lines = append(lines, "post "+strconv.Itoa(r.Intn(11)-5)+" "+drawnName(r))
		}
	}
	return lines
}
