package tests

import (
	"math/rand"
	"slices"
	"strconv"
	"strings"
	"testing"

	"loop.example/g00333/impl"
)

func TestLimitsOfScripts(t *testing.T) {
	if impl.MaxScript != 2500 || impl.MaxLines != 80 {
		t.Error(impl.MaxScript, impl.MaxLines)
	}
}

// scriptAs: what is no script has the empty text and no broker.
func scriptAs(t *testing.T, text string, isScript bool) string {
	t.Helper()
	told, b, ok := ranAs(t, text)
	if ok != isScript || !isScript && (told != "" || !sameBroker(b, impl.Broker{})) {
		t.Errorf("%d bytes, %.100q: %.100q, %s, %v", len(text), text, told, shownBroker(b), ok)
	}
	if isScript && strings.Count(told, "\n") != strings.Count(text, "\n") {
		t.Errorf("%d bytes, %.100q: %.100q", len(text), text, told)
	}
	return told
}

func TestScriptsAndTextsThatAreNone(t *testing.T) {
	for text, want := range map[string]string{
		"":                               "",
		"\n":                             "what\n",
		"\n\n\n":                         "what\nwhat\nwhat\n",
		" \n":                            "what\n",
		"fly\n":                          "what\n",
		"fits a a\n":                     "yes\n",
		"\nfits a a\n\n":                 "what\nyes\nwhat\n",
		"fits a a\nfits a b\nfits a A\n": "yes\nnot\nno\n",
		"\x00\n":                         "what\n",
		"\x00fits a a\n":                 "what\n",
		"fits a a\x00\n":                 "no\n",
		"fits a a\r\n":                   "no\n",
		"\xff\xfe\n\x80\n":               "what\nwhat\n",
		"é ü\nfits é a\n":                "what\nno\n",
		"fits\ta\ta\n":                   "what\n",
		"find \xff a\xff\x00\xff\n":      "at 1 3\n",
		"find \x00 \x00a\x00\n":          "at 0 2\n",
	} {
		if told := scriptAs(t, text, true); told != want {
			t.Errorf("%q: %q; want %q", text, told, want)
		}
		// The last line has no byte 10 behind it.
		for _, behind := range []string{"x", "fits a a", " ", "\x00", "\xff", "\r", "take 1"} {
			scriptAs(t, text+behind, false)
			scriptAs(t, behind+text, strings.HasSuffix(text, "\n"))
		}
	}
}

func TestScriptsOfEachNumberOfLines(t *testing.T) {
	for _, line := range []string{"", "fly", "lost 1", "fits a a", "post 1 a", "\xff", "fan 1 1 1 b"} {
		for many := range 90 {
			text := strings.Repeat(line+"\n", many)
			told := scriptAs(t, text, many <= 80)
			if many <= 80 && len(answersOf(told)) != many {
				t.Errorf("%d times %q: %.100q", many, line, told)
			}
			scriptAs(t, text+"x", false)
		}
	}
	scriptAs(t, strings.Repeat("\n", 2500), false)
	scriptAs(t, strings.Repeat("\n", 2501), false)
	scriptAs(t, strings.Repeat("\n", 80)+"fits a a", false)
	told := scriptAs(t, strings.Repeat("\n", 79)+"fits a a\n", true)
	if told != strings.Repeat("what\n", 79)+"yes\n" {
		t.Errorf("the line with the number 80: %q", told)
	}
}

func TestScriptsOfEachLength(t *testing.T) {
	for _, bytes := range append(from(2480, 2520), 100, 255, 256, 1000, 2000, 2600, 5000, 1<<16) {
		isScript := bytes <= 2500
		if told := scriptAs(t, strings.Repeat("x", bytes-1)+"\n", isScript); isScript && told != "what\n" {
			t.Errorf("one line of %d bytes: %.100q", bytes, told)
		}
		scriptAs(t, "find a "+strings.Repeat("a", bytes-8)+"\n", isScript)
		scriptAs(t, "fits a a\n"+strings.Repeat("x", bytes-9), false)
	}
	// As many lines as may be, of as many bytes as may be, and one more of either.
	ahead := strings.Repeat("fits a a\n", 79)
	last := strings.Repeat("x", 2500-len(ahead)-1)
	if told := scriptAs(t, ahead+last+"\n", true); told != strings.Repeat("yes\n", 79)+"what\n" {
		t.Errorf("80 lines of 2500 bytes: %q", told)
	}
	scriptAs(t, ahead+last+"x\n", false)
	scriptAs(t, ahead+last[1:]+"\n\n", false)
	scriptAs(t, ahead+last+"x", false)
}

// goodLines is a line of each form, and the answer to it alone.
func goodLines() map[string]string {
	return map[string]string{
		"fan 1 1 1 a":                 "ok",
		"fan 0 4 30 a/#":              "ok",
		"post 1 a":                    "no 1",
		"post -5 a/b":                 "no 1",
		"text 1 hi a":                 "no 1",
		"take 1":                      "no",
		"lost 1":                      "no",
		"schema {n:1! num,s:2 text}":  "is {n:1! num,s:2 text}",
		"schema {n:1 nut}":            "bad 7",
		"term $1 a":                   "with $1=a",
		"term a b":                    "not",
		"find a aba":                  "at 0 2",
		"find c aba":                  "at",
		"find a a b a":                "at 0 4",
		"fits a/+ a/b":                "yes",
		"fits a/+ a":                  "not",
		"schema { n : 1 ! num , } ":   "bad 16",
		"schema {}":                   "is {}",
		"fits # x/y/z":                "yes",
		"term f($1,$2) f($2,g($3,b))": "with $1=g($3,b) $2=g($3,b)",
	}
}

// Each line of the document's kinds has its answer, and so with other blanks, words and letters another one.
func TestWordsOfLines(t *testing.T) {
	for line, want := range goodLines() {
		alone(t, line, want)
		alone(t, " "+line, "what")
		alone(t, strings.ToUpper(line), "what")
		alone(t, strings.ToUpper(line[:1])+line[1:], "what")
		name, rest, _ := strings.Cut(line, " ")
		alone(t, name, "what")
		alone(t, name+"\t"+rest, "what")
		alone(t, name+rest, "what")
		alone(t, name+"s "+rest, "what")
		alone(t, name[1:]+" "+rest, "what")
		alone(t, name[:len(name)-1]+" "+rest, "what")
		alone(t, name+"\x00 "+rest, "what")
		alone(t, rest, "what")
		alone(t, rest+" "+name, "what")
	}
	for line, want := range map[string]string{
		// Two blanks, and a blank behind, have a word of no bytes: a word too many, most often.
		"fan  1 1 1 a":   "what",
		"fan 1  1 1 a":   "what",
		"fan 1 1  1 a":   "what",
		"fan 1 1 1  a":   "what",
		"fan 1 1 1 a ":   "what",
		"fan 1 1 1 ":     "no",
		"fan 1 1  a":     "what",
		"post  1 a":      "what",
		"post 1  a":      "what",
		"post 1 a ":      "what",
		"post 1 ":        "code 1",
		"post  a":        "what",
		"text  1 hi a":   "what",
		"text 1  hi a":   "what",
		"text 1 hi  a":   "what",
		"text 1 hi a ":   "what",
		"text 1 hi ":     "code 1",
		"text 1  a":      "no 1",
		"text  hi a":     "what",
		"take  1":        "what",
		"take 1 ":        "what",
		"take ":          "what",
		"lost  1":        "what",
		"lost 1 ":        "what",
		"lost ":          "what",
		"schema  {}":     "is {}",
		"schema {} ":     "is {}",
		"schema   { }  ": "is {}",
		"schema ":        "bad 0",
		"schema  ":       "bad 1",
		"term  a b":      "no",
		"term a  b":      "no",
		"term a b ":      "no",
		"term a ":        "no",
		"term  a":        "no",
		"term ":          "what",
		"term  ":         "no",
		"find  a":        "no",
		"find  ":         "no",
		"find a ":        "at",
		"find a  a":      "at 1",
		"find a a ":      "at 0",
		"find  a b":      "no",
		"find ":          "what",
		"fits  a a":      "what",
		"fits a  a":      "what",
		"fits a a ":      "what",
		"fits  a":        "no",
		"fits a ":        "no",
		"fits  ":         "no",
		"fits ":          "what",
		// A word too few, and one too many.
		"fan 1 1 1":     "what",
		"fan 1 1":       "what",
		"fan 1":         "what",
		"fan 1 1 1 a a": "what",
		"fan 1 1 1 1 a": "what",
		"fan 1 1 a":     "what",
		"post a":        "what",
		"post 1":        "what",
		"post 1 a a":    "what",
		"post 1 1 a":    "what",
		"text 1 a":      "what",
		"text hi a":     "what",
		"text 1":        "what",
		"text 1 h i a":  "what",
		"text 1 hi a a": "what",
		"take 1 1":      "what",
		"lost 1 1":      "what",
		"term a":        "what",
		"find a":        "what",
		"fits a":        "what",
		"fits a a a":    "what",
		// What is told as T is all behind the blank.
		"schema {a:1 num} {a:1 num}": "bad 10",
		"schema {a:1 num} b":         "bad 10",
		"term a a a":                 "no",
		"term f($1, b) f(a,$2)":      "no",
		"term f($1,b) f(a, $2)":      "no",
		"find b a b c b":             "at 2 6",
	} {
		alone(t, line, want)
	}
}

// numbersIn is the lines in which a number stands at a place, by what is ahead of it and behind.
func numbersIn() [][2]string {
	return [][2]string{
		{"fan ", " 1 1 a"}, {"fan 1 ", " 1 a"}, {"fan 1 1 ", " a"}, {"fan 1 4 ", " a"},
		{"post ", " a"}, {"post ", " z"}, {"text ", " hi a"}, {"text ", " hi z"}, {"take ", ""}, {"lost ", ""},
	}
}

func TestNumbersOfLines(t *testing.T) {
	for _, line := range numbersIn() {
		for _, word := range wrongNumerals {
			alone(t, line[0]+word+line[1], "what")
			linesAs(t, line[0]+word+"1"+line[1], line[0]+"1"+word+line[1])
		}
	}
	for _, word := range []string{"0", "1", "9", "-1", "-9", "10", "-10", "12345678", "-12345678", "100000000", "-100000000", "123456789", "-123456789", "999999999", "-999999999"} {
		saidTo(t, "fan 0 4 1 a", "ok", "post "+word+" a", "no 1", "text "+word+" x a", "no 2", "post "+word+" z", "code 1", "take 0", noteLine(1, "a", word), "take 0", noteLine(2, "a", word))
		for k := 1; k <= 3; k++ {
			alone(t, "fan 0 "+strconv.Itoa(k)+" "+word+" a", "ok")
		}
	}
	// Each number of 1 to 9 digits, once more as 10.
	digits := ""
	for i := range 9 {
		digits += strconv.Itoa(9 - i)
		for _, sign := range []string{"", "-"} {
			alone(t, "post "+sign+digits+" a", "no 1")
			alone(t, "fan 0 2 "+sign+digits+" a", "ok")
			alone(t, "post "+sign+"0"+digits+" a", "what")
			alone(t, "fan 0 2 "+sign+"0"+digits+" a", "what")
			alone(t, "lost "+sign+digits, "no")
		}
	}
	alone(t, "post "+digits+"0 a", "what")
	alone(t, "post -"+digits+"0 a", "what")
	// Numbers that are not what is asked for are numbers all the same.
	for _, who := range []string{"-1", "-100", "101", "102", "999999999", "-999999999"} {
		saidTo(t, "fan "+who+" 1 1 a", "no", "take "+who, "no", "lost "+who, "no")
	}
	for _, no := range []string{"0", "-1", "-30", "31", "32", "999999999", "-999999999"} {
		saidTo(t, "fan 1 4 "+no+" a", "no", "lost 1", "no")
	}
}

// noteLine is the answer of a note that tells the number alone.
func noteLine(no int, topic, number string) string {
	line := "note " + strconv.Itoa(no) + " " + topic
	for _, b := range []byte(saying(number)) {
		line += " " + strconv.Itoa(int(b))
	}
	return line
}

func TestFanLines(t *testing.T) {
	// What each K wants, by the notes that come of the same posts.
	posts := []string{"post 4 a", "post 5 a", "post 6 a", "text 5 x a", "post -5 a"}
	for of, wantNos := range map[string][]int{
		"1 5": {2, 4}, "1 4": {1}, "1 -5": {5}, "1 7": nil,
		"2 5": {1, 5}, "2 4": {5}, "2 -5": nil, "2 7": {1, 2, 3, 4, 5},
		"3 5": {3}, "3 4": {2, 3, 4}, "3 -5": {1, 2, 3, 4}, "3 6": nil, "3 -6": {1, 2, 3, 4, 5},
		"4 1": {1, 2, 3, 4, 5}, "4 2": {4}, "4 3": nil, "4 5": nil, "4 30": nil,
	} {
		pairs := []string{"fan 9 " + of + " a", "ok"}
		for i, p := range posts {
			pairs = append(pairs, p, "no "+strconv.Itoa(i+1))
		}
		for _, no := range wantNos {
			pairs = append(pairs, "take 9", noteLine(no, "a", []string{"4", "5", "6", "5", "-5"}[no-1]))
		}
		saidTo(t, append(pairs, "take 9", "no", "lost 9", "lost 0")...)
	}
	for _, k := range []string{"0", "5", "6", "7", "8", "9", "-1", "-4", "10", "11", "999999999"} {
		for _, n := range []string{"0", "1", "2", "-1"} {
			saidTo(t, "fan 1 "+k+" "+n+" a", "what", "lost 1", "no")
		}
	}
	for no := range 34 {
		want := "no"
		if no >= 1 && no <= 30 {
			want = "ok"
		}
		alone(t, "fan 1 4 "+strconv.Itoa(no)+" a", want)
	}
}

func TestWhosOfFanLines(t *testing.T) {
	for who := range 110 {
		want := []string{"ok", "lost 0"}
		if who > 100 {
			want = []string{"no", "no"}
		}
		w := strconv.Itoa(who)
		saidTo(t, "lost "+w, "no", "fan "+w+" 1 1 a", want[0], "fan "+w+" 1 1 a", "no", "fan "+w+" 4 2 #", "no", "lost "+w, want[1], "take "+w, "no", "lost 200", "no")
	}
	// At most four, no two alike; what is refused takes no place.
	saidTo(t, "fan 0 1 1 a", "ok", "fan 0 1 1 b", "no", "fan 100 2 1 a", "ok", "fan 101 1 1 a", "no", "fan 100 1 1 c", "no", "fan 7 1 1 A", "no",
		"fan 7 3 1 a", "ok", "fan 8 4 31 a", "no", "fan 8 4 1 a", "ok", "fan 9 1 1 a", "no", "fan 7 1 1 a", "no", "lost 7", "lost 0", "lost 8", "lost 0", "lost 9", "no")
	saidTo(t, "fan 1 1 1 #", "ok", "fan 2 1 1 #", "ok", "fan 3 1 1 #", "ok", "fan 4 1 1 #", "ok", "fan 5 1 1 #", "no", "post 1 a", "no 1",
		"take 1", "note 1 a 8 2", "take 2", "note 1 a 8 2", "take 3", "note 1 a 8 2", "take 4", "note 1 a 8 2", "take 5", "no", "fan 5 1 1 #", "no")
}

func TestPatternsOfFanLines(t *testing.T) {
	for pattern, told := range map[string][2]bool{
		"a": {true, false}, "a/b": {false, true}, "#": {true, true}, "+": {true, false}, "a/+": {false, true}, "+/b": {false, true}, "+/+": {false, true},
		"a/#": {true, true}, "+/#": {true, true}, "a/b/#": {false, true}, "a/b/+": {false, false}, "b": {false, false}, "b/#": {false, false},
		"abc123/0": {false, false}, "a/b/c/d/e/#": {false, false},
	} {
		pairs := []string{"fan 1 4 1 " + pattern, "ok", "post 1 a", "no 1", "post 2 a/b", "no 1"}
		for i, name := range []string{"a", "a/b"} {
			if told[i] {
				pairs = append(pairs, "take 1", noteLine(1, name, strconv.Itoa(i+1)))
			}
		}
		saidTo(t, append(pairs, "take 1", "no")...)
	}
	for _, pattern := range append(wrongPatterns(), "", "a/", "/a", "a//b", "#/a", "a/#/b", "A", "a+", "++", "a/b/c/d/e/f/g", "abcdefg", "a\x00", "\xff", "$1", "{}") {
		if !strings.Contains(pattern, "\n") && !strings.Contains(pattern, " ") && len(pattern) < 1000 {
			saidTo(t, "fan 1 4 1 "+pattern, "no", "lost 1", "no")
		}
	}
	for _, pattern := range append(goodTopics(), onlyPatterns()...) {
		saidTo(t, "fan 1 4 1 "+pattern, "ok", "lost 1", "lost 0")
	}
}

func TestPostAndTextLines(t *testing.T) {
	// Each topic has numbers of its own; what is refused takes none.
	saidTo(t, "post 1 a", "no 1", "post 1 a", "no 2", "post 1 a/b", "no 1", "text 1 x a", "no 3", "text 1 x a/b", "no 2", "post 1 b", "code 1", "text 1 x b", "code 1",
		"post 1 a", "no 4", "text 1 "+strings.Repeat("x", 31)+" a", "code 3", "text 1 "+strings.Repeat("x", 31)+" b", "code 1", "post 1 a", "no 5", "post x a", "what", "post 1 a/b", "no 3")
	for _, name := range []string{"", "b", "A", "a/", "/a", "a/b/", "a/c", "a/b/c", "+", "#", "a/+", "a/#", "a\x00", "\x00a", "\xff", "aa", "a/bb", strings.Repeat("a", 500)} {
		saidTo(t, "fan 1 4 1 #", "ok", "post 1 "+name, "code 1", "text 1 x "+name, "code 1", "take 1", "no", "post 1 a", "no 1")
	}
	for long := range 60 {
		want := "no 1"
		if long > 30 {
			want = "code 3"
		}
		for _, letter := range []string{"x", "\x00", "\xff", "\r", "é"} {
			if bytes := long * len(letter); bytes <= 30 || long > 30 {
				alone(t, "text 1 "+strings.Repeat(letter, long)+" a", want)
			}
			alone(t, "text 1 "+strings.Repeat(letter, long)+" c", "code 1")
		}
	}
	for _, long := range []int{300, 390, 396, 397, 398, 400, 401, 1000, 2000} {
		alone(t, "text 1 "+strings.Repeat("x", long)+" a", "code 3")
		alone(t, "text 1 "+strings.Repeat("x", long)+" c", "code 1")
	}
	// 15 letters of two bytes each are 30 bytes.
	alone(t, "text 1 "+strings.Repeat("é", 15)+" a", "no 1")
	alone(t, "text 1 "+strings.Repeat("é", 15)+"e a", "code 3")
	// A post that is lost on no fan is numbered all the same, up to as many as lines may be.
	for i, got := range linesAs(t, slices.Repeat([]string{"post 1 a"}, 80)...) {
		if got != "no "+strconv.Itoa(i+1) {
			t.Errorf("post %d: %q", i, got)
		}
	}
}

func TestTakeAndLostLines(t *testing.T) {
	for many := range 76 {
		lines := []string{"fan 3 4 1 a", "fan 4 4 2 #"}
		for i := range many {
			lines = append(lines, "post "+strconv.Itoa(100*i)+" a")
		}
		lines = append(lines, "lost 3", "lost 4", "take 3")
		l := linesAs(t, lines...)
		lost, first := max(many-10, 0), "no"
		if many > 0 {
			first = noteLine(lost+1, "a", strconv.Itoa(100*lost))
		}
		if want := []string{"lost " + strconv.Itoa(lost), "lost 0", first}; !slices.Equal(l[many+2:], want) {
			t.Errorf("%d posts: %q; want %q", many, l[many+2:], want)
		}
	}
	// All of an Inbox, the first one first, and then what comes later.
	pairs := []string{"take 3", "no", "lost 3", "no", "fan 3 4 1 #", "ok", "take 3", "no", "lost 3", "lost 0"}
	for i := range 6 {
		no := strconv.Itoa(i + 1)
		pairs = append(pairs, "post "+no+" a", "no "+no, "post -"+no+" a/b", "no "+no)
	}
	for i := range 6 {
		no := strconv.Itoa(i + 1)
		if i > 0 {
			pairs = append(pairs, "take 3", noteLine(i+1, "a", no), "take 3", noteLine(i+1, "a/b", "-"+no))
		}
	}
	pairs = append(pairs, "take 3", "no", "lost 3", "lost 2", "text 7 x a/b", "no 7", "lost 3", "lost 2", "take 3", noteLine(7, "a/b", "7"), "take 3", "no", "take 4", "no", "lost 4", "no")
	saidTo(t, pairs...)
	// What a fan sees is the number alone.
	saidTo(t, "fan 3 4 2 a", "ok", "text 5 hello a", "no 1", "post 5 a", "no 2", "text -1000 x a", "no 3", "text 0  a", "no 4",
		"take 3", "note 1 a 8 10", "take 3", "note 3 a 8 207 15", "take 3", "note 4 a 8 0", "take 3", "no")
	saidTo(t, "fan 0 4 1 a/b", "ok", "post 999999999 a/b", "no 1", "post -999999999 a/b", "no 2", "post 64 a/b", "no 3",
		"take 0", "note 1 a/b 8 254 167 214 185 7", "take 0", "note 2 a/b 8 253 167 214 185 7", "take 0", "note 3 a/b 8 128 1")
	// Each fan has an Inbox of its own.
	saidTo(t, "fan 1 3 5 a", "ok", "fan 2 2 5 #", "ok", "post 6 a", "no 1", "post 4 a", "no 2", "post 4 a/b", "no 1", "post 5 a", "no 3",
		"take 1", "note 1 a 8 12", "take 1", "no", "take 2", "note 2 a 8 8", "take 1", "no", "take 2", "note 1 a/b 8 8", "take 2", "no")
}

// A fan is told what is posted once it is there.
func TestFansThatComeLater(t *testing.T) {
	saidTo(t, "post 1 a", "no 1", "fan 1 4 1 a", "ok", "take 1", "no", "post 2 a", "no 2", "fan 2 4 1 a", "ok", "post 3 a", "no 3",
		"take 1", "note 2 a 8 4", "take 2", "note 3 a 8 6", "take 1", "note 3 a 8 6", "take 2", "no", "take 1", "no")
}

func TestSchemaLines(t *testing.T) {
	for text, want := range map[string]string{
		"{}":                                 "is {}",
		" { } ":                              "is {}",
		"{b:2 num,a:1! [text]}":              "is {a:1! [text],b:2 num}",
		"{a:1num}":                           "bad 4",
		"{a:1  num}":                         "is {a:1 num}",
		"{a:1!num}":                          "bad 5",
		"{a:1[num]}":                         "is {a:1 [num]}",
		"{ a : 1 ! enum ( 7 ) , b : 2 { } }": "is {a:1! enum(7),b:2 {}}",
		"":                                   "bad 0",
		"{":                                  "bad 1",
		"}":                                  "bad 0",
		"num":                                "bad 0",
		"{a:1 num":                           "bad 8",
		"{a:01 num}":                         "bad 4",
		"{a:100 num}":                        "bad 5",
		"{a:1 num}}":                         "bad 9",
		"{A:1 num}":                          "bad 1",
		"{a:1\tnum}":                         "bad 4",
		"{a:1 num}\x00":                      "bad 9",
		"\xff":                               "bad 0",
		// All could stand there, but it is no good schema.
		"{a:0 num}":            "bad 9",
		"{a:31 num}":           "bad 10",
		"{a:1 num,a:2 num}":    "bad 17",
		"{a:1 num,b:1 num}":    "bad 17",
		"{a:1 enum(21)}":       "bad 14",
		"{a:1 [[[[[num]]]]]}":  "bad 19",
		"{a:1 [[[[num]]]]}":    "is {a:1 [[[[num]]]]}",
		"{ a:1 num , a:2 num}": "bad 20",
	} {
		alone(t, "schema "+text, want)
	}
	// Blanks are bytes of the text, too.
	for _, bytes := range []int{60, 399, 400, 401, 402, 500} {
		text := tidyTextOf("num", "num", bytes)
		want := "is " + text
		if bytes > 400 {
			want = "bad 0"
		}
		alone(t, "schema "+text, want)
		alone(t, "schema "+text+strings.Repeat(" ", max(400-bytes, 0)), want)
		alone(t, "schema "+text+strings.Repeat(" ", max(400-bytes, 0)+1), "bad 0")
	}
	// A blank that a text did without may make the tidy one too long.
	for bytes, want := range map[int]string{400: "is " + tidyTextOf("[num]", "num", 400), 401: "bad 0"} {
		alone(t, "schema "+strings.Replace(tidyTextOf("[num]", "num", bytes), " ", "", 1), want)
	}
}

func TestTermLines(t *testing.T) {
	for text, want := range map[string]string{
		"a a":                             "with",
		"a b":                             "not",
		"$1 $1":                           "with",
		"$1 $2":                           "with $1=$2",
		"$2 $1":                           "with $2=$1",
		"$6 $1":                           "with $6=$1",
		"$1 a":                            "with $1=a",
		"a $1":                            "with $1=a",
		"$6 f($1,$2)":                     "with $6=f($1,$2)",
		"f($1,b) f(a,$2)":                 "with $1=a $2=b",
		"f($2,$1) f(a,b)":                 "with $1=b $2=a",
		"f($1,$2,$3) f($2,$3,$4)":         "with $1=$4 $2=$4 $3=$4",
		"f($1,$3) f(g($2),h($1))":         "with $1=g($2) $3=h(g($2))",
		"f($5,$4,$3,$2,$1) f(e,d,c,b,aa)": "with $1=aa $2=b $3=c $4=d $5=e",
		"f(a) g(a)":                       "not",
		"f(a) f(a,a)":                     "not",
		"f a":                             "not",
		"$1 f($1)":                        "not",
		"f($1,$1) f(a,b)":                 "not",
		"f($1,a) f($2,$2)":                "with $1=a $2=a",
		"$7 a":                            "no",
		"$0 a":                            "no",
		"a $":                             "no",
		"$1 $12":                          "no",
		"$ $1":                            "no",
		"f( a":                            "no",
		"a f()":                           "no",
		"f(a,) a":                         "no",
		"abcde a":                         "no",
		"a A":                             "no",
		"a f(a,a,a,a,a,a)":                "no",
		"\x00 a":                          "no",
		"a \xff":                          "no",
		"a a\r":                           "no",
	} {
		alone(t, "term "+text, want)
	}
	// Terms of as many cells as may be, texts of as many bytes, and what would get more cells.
	alone(t, "term "+chain(30, "a")+" "+chain(30, "$1"), "with $1=a")
	alone(t, "term "+chain(31, "a")+" "+chain(30, "$1"), "no")
	alone(t, "term $1 "+chain(30, "$2"), "with $1="+chain(30, "$2"))
	its := chain(14, "a")
	alone(t, "term f($1,$2) f("+its+",g($1,$1,b))", "with $1="+its+" $2=g("+its+","+its+",b)")
	alone(t, "term f($1,$2) f("+its+",g($1,$1,b,b))", "no")
	long := strings.Repeat("abcd(", 29) + "a" + strings.Repeat(")", 29)
	alone(t, "term "+long+" $1", "with $1="+long)
	alone(t, "term $3 "+long, "with $3="+long)
}

func TestFindLines(t *testing.T) {
	a200 := strings.Repeat("a", 200)
	all := "at"
	for i := range 200 {
		all += " " + strconv.Itoa(i)
	}
	for text, want := range map[string]string{
		"aa aaaa":               "at 0 1 2",
		"a a":                   "at 0",
		"a b":                   "at",
		"a ":                    "at",
		"ab a":                  "at",
		"a a a":                 "at 0 2",
		"a  a ":                 "at 1",
		"a b b":                 "at",
		"ab abcabab":            "at 0 3 5",
		"aba abababa":           "at 0 2 4",
		" a":                    "no",
		"  ":                    "no",
		" ":                     "no",
		"a " + a200:             all,
		a200 + " " + a200:       "at 0",
		"a " + a200 + "a":       "no",
		"a " + a200 + " ":       "no",
		a200 + "a a":            "no",
		a200 + "a " + a200:      "no",
		a200 + " ":              "at",
		"\xff \x00\xff":         "at 1",
		"\xc3 é":                "at 0",
		"é e\xcc\xc3\xa9é":      "at 2 4",
		"\x00 \x00\x01\x00":     "at 0 2",
		"\r a\r":                "at 1",
		"find find a find":      "at 0 7",
		"$1 {$1:1 num}":         "at 1",
		"a/+ a/+/a/+":           "at 0 4",
		"-1 -1-1 1-1":           "at 0 2 6",
		"\\n \\n":               "at 0",
		"a " + a200[:199] + "b": strings.TrimSuffix(all, " 199"),
	} {
		alone(t, "find "+text, want)
	}
}

func TestFitsLines(t *testing.T) {
	for text, want := range map[string]string{
		"a a": "yes", "a b": "not", "a a/b": "not", "a/b a/b": "yes", "a/+ a/b": "yes", "a/+ a": "not", "a/# a": "yes", "a/# a/b/c": "yes", "# a/b": "yes",
		"+ a": "yes", "+ a/b": "not", "+/+ a/b": "yes", "+/b a/b": "yes", "+/c a/b": "not", "#/a a": "no", "a/ a": "no", "a a/": "no", "A a": "no", "a A": "no",
		"a +": "no", "a #": "no", "a a/+": "no", "# #": "no", "abcdef abcdef": "yes", "abcdefg a": "no", "a abcdefg": "no", "a/b/c/d/e/f a/b/c/d/e/f": "yes",
		"a/b/c/d/e/f/g a": "no", "# a/b/c/d/e/f/g": "no", "0/9 0/9": "yes", "\x00 a": "no", "a \xff": "no", "a a\r": "no", "a/#/b a": "no", "a+ a": "no",
	} {
		alone(t, "fits "+text, want)
	}
	for _, pattern := range append(goodTopics(), onlyPatterns()...) {
		for _, topic := range goodTopics() {
			want := "not"
			if wantTopicFits(pattern, topic) {
				want = "yes"
			}
			if got := linesAs(t, "fits "+pattern+" "+topic)[0]; got != want {
				t.Errorf("fits %s %s: %s", pattern, topic, got)
			}
		}
	}
}

// What is no line changes nothing: those behind it are answered as ever.
func TestWhatLinesChangeNothing(t *testing.T) {
	wrong := []string{"", " ", "fly", "what", "no", "ok", "\x00", "\xff", "fan", "fan 1 5 1 a", "fan 9 0 1 a", "fan 9 9 9 9 9", "post 01 a", "text 1 a", "take", "take one",
		"lost -0", "term a", "fits a a a", "find", "Post 1 a", "post  1 a", " post 1 a", "post 1 a ", "publish 1 a", "addfan 1 1 1 a", "no 1", "note 1 a 8 2"}
	for _, line := range wrong {
		alone(t, line, "what")
	}
	r := rand.New(rand.NewSource(181))
	for range 100 {
		lines := drawnTalk(r, 40)
		want := linesAs(t, lines...)
		var mixed []string
		var at []int
		for _, line := range lines {
			for r.Intn(2) == 0 && len(mixed)+len(lines) < 78 {
				mixed = append(mixed, oneAmong(r, wrong))
			}
			at = append(at, len(mixed))
			mixed = append(mixed, line)
		}
		mixed = mixed[:min(len(mixed), 80)]
		got := linesAs(t, mixed...)
		for i, k := range at {
			if k < len(got) && got[k] != want[i] {
				t.Errorf("%q: line %d, %q: %q; want %q", mixed, k, mixed[k], got[k], want[i])
			}
		}
	}
}

func TestGivenLinesByHand(t *testing.T) {
	saidTo(t, "fan 1 3 1 #", "ok", "post 1 a", "no 1", "post 5 a/b", "no 1", "text 2 hi a", "no 2", "take 1", "note 1 a/b 8 10", "take 1", "note 2 a 8 4", "take 1", "no",
		"lost 1", "lost 0", "post 1 z", "code 1", "schema {b:2 num,a:1! [text]}", "is {a:1! [text],b:2 num}", "schema {a:1num}", "bad 4", "term f($1,b) f(a,$2)", "with $1=a $2=b",
		"term f(a) g(a)", "not", "find aa aaaa", "at 0 1 2", "fits a/+ a/b", "yes", "fly", "what", "fan 1 1 1 a", "no")
}
