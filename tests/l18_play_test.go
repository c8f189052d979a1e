package tests

import (
	"math/rand"
	"slices"
	"strconv"
	"strings"
	"testing"

	"loop.example/g00333/impl"
)

func TestBrokerOfByHand(t *testing.T) {
	const bothPosted = "topic a 2 {n:1! num,s:2 text}; topic a/b 1 {n:1! num,s:2 text}"
	for _, row := range []struct {
		lines []string
		want  string
	}{
		{nil, twoTopics},
		{[]string{""}, twoTopics},
		{[]string{"fly", "what", "schema {}", "term $1 a", "find a a", "fits a a", "lost 1", "take 1"}, twoTopics},
		{[]string{"post 1 a"}, "topic a 1 {n:1! num,s:2 text}; topic a/b 0 {n:1! num,s:2 text}"},
		{[]string{"post 1 a", "post 1 b", "post 01 a", "text 5 x a/b", "post 2 a"}, bothPosted},
		{[]string{"fan 3 1 5 a"}, twoTopics + "; fan 3 a 0 1=5 {n:1! num}"},
		{[]string{"fan 3 2 -5 a"}, twoTopics + "; fan 3 a 0 1<-5 {n:1! num}"},
		{[]string{"fan 3 3 0 +/b"}, twoTopics + "; fan 3 +/b 0 1>0 {n:1! num}"},
		{[]string{"fan 3 4 2 #"}, twoTopics + "; fan 3 # 0 2? {n:1! num}"},
		{[]string{"fan 3 1 5 A", "fan 101 1 5 a", "fan 3 4 0 a", "fan 3 5 0 a", "fan 3 0 0 a"}, twoTopics},
		{[]string{"fan 9 1 5 a", "fan 9 2 5 b", "fan 0 2 5 b", "fan 100 4 30 #", "fan 1 4 1 #", "fan 2 4 1 #"},
			twoTopics + "; fan 9 a 0 1=5 {n:1! num}; fan 0 b 0 1<5 {n:1! num}; fan 100 # 0 30? {n:1! num}; fan 1 # 0 1? {n:1! num}"},
		{[]string{"fan 9 3 1 #", "post 5 a", "text 1 x a", "text 7 x a/b", "lost 9"}, bothPosted + "; fan 9 # 0 1>1 {n:1! num}; note a 1 5; note a/b 1 7"},
		{[]string{"fan 9 3 1 #", "post 5 a", "text 1 x a", "text 7 x a/b", "take 9"}, bothPosted + "; fan 9 # 0 1>1 {n:1! num}; note a/b 1 7"},
		{[]string{"post 5 a", "text 1 x a", "fan 9 3 1 #", "text 7 x a/b", "take 9", "take 9", "take 8"}, bothPosted + "; fan 9 # 0 1>1 {n:1! num}"},
	} {
		b, ok := impl.BrokerOf(script(row.lines...))
		if !sameBroker(b, broker(row.want)) || !ok {
			t.Errorf("%q: %s, %v; want %s", row.lines, shownBroker(b), ok, row.want)
		}
		linesAs(t, row.lines...)
	}
}

// An Inbox that is full loses its first one.
func TestBrokerOfManyPosts(t *testing.T) {
	for many := range 79 {
		lines := []string{"fan 7 4 1 a"}
		for i := range many {
			lines = append(lines, "post "+strconv.Itoa(i+1)+" a")
		}
		want := broker(twoTopics + "; fan 7 a " + strconv.Itoa(max(many-10, 0)) + " 1? {n:1! num}")
		want.Topics[0].Count, want.Fans[0].Inbox = many, notesOf("a", max(many-9, 1), many)
		if b, ok := impl.BrokerOf(script(lines...)); !sameBroker(b, want) || !ok {
			t.Errorf("%d posts: %s, %v", many, shownBroker(b), ok)
		}
	}
}

// handedOn goes line by line, by the functions of chapter 17.
func handedOn(b impl.Broker, line string) impl.Broker {
	w := strings.Split(line, " ")
	switch w[0] {
	case "fan":
		want := impl.Want{Kind: decimal(w[2]), No: 1, Num: decimal(w[3])}
		if want.Kind == impl.WantHas {
			want = impl.Want{Kind: impl.WantHas, No: want.Num}
		}
		if added, ok := impl.AddFan(b, impl.Fan{Who: decimal(w[1]), Pattern: w[4], Filter: wants(want), View: schema("{n:1! num}")}); ok {
			return added
		}
	case "post":
		b, _, _, _ = impl.Publish(b, impl.Post{Topic: w[2], Bytes: saying(w[1])})
	case "text":
		b, _, _, _ = impl.Publish(b, impl.Post{Topic: w[3], Bytes: saying(w[1] + " " + w[2])})
	case "take":
		if left, _, ok := impl.TakeNote(b, decimal(w[1])); ok {
			return left
		}
	}
	return b
}

func TestBrokerOfIsAsTheBrokerTells(t *testing.T) {
	r := rand.New(rand.NewSource(182))
	for range 200 {
		lines := drawnTalk(r, 10+r.Intn(60))
		b, ok := impl.NewBroker(broker(twoTopics).Topics)
		for _, line := range lines {
			b = handedOn(b, line)
		}
		if got, okGot := impl.BrokerOf(script(lines...)); !sameBroker(got, b) || !ok || !okGot {
			t.Errorf("%q: %s, %v; want %s", lines, shownBroker(got), okGot, shownBroker(b))
		}
	}
}

// Promise 18.
func TestAnswersDoNotHangOnWhatFollows(t *testing.T) {
	r := rand.New(rand.NewSource(183))
	for range 80 {
		lines := drawnLines(r, 80)
		answers := answersOf(impl.RunBroker(script(lines...)))
		if len(answers) != len(lines) {
			t.Fatalf("%q: %d answers", lines, len(answers))
		}
		for many := range len(lines) + 1 {
			ahead := script(lines[:many]...)
			if got := impl.RunBroker(ahead); got != script(answers[:many]...) {
				t.Errorf("%q: %q; of all lines %q", ahead, got, answers[:many])
			}
			if b, ok := impl.BrokerOf(ahead); !ok || !impl.GoodBroker(b) {
				t.Errorf("%q: %s, %v", ahead, shownBroker(b), ok)
			}
		}
		// Others behind: the answers to the first lines stay.
		many := r.Intn(len(lines) + 1)
		for range 5 {
			other := slices.Clone(lines[:many])
			for _, line := range drawnLines(r, 80-many) {
				if len(script(other...))+len(line)+1 <= 2500 {
					other = append(other, line)
				}
			}
			if got := answersOf(impl.RunBroker(script(other...))); len(got) != len(other) || !slices.Equal(got[:many], answers[:many]) {
				t.Errorf("%q: %q; want %q ahead", other, got, answers[:many])
			}
		}
	}
}

// Of what is posted and taken the answers do not hang on the lines that tell the broker nothing.
func TestLinesOfTextsAloneChangeNoBroker(t *testing.T) {
	r := rand.New(rand.NewSource(184))
	for range 150 {
		lines := drawnLines(r, 80)
		told := answersOf(impl.RunBroker(script(lines...)))
		var left, want []string
		for i, line := range lines {
			name, _, _ := strings.Cut(line, " ")
			if slices.Contains([]string{"fan", "post", "text", "take"}, name) && told[i] != "what" {
				left, want = append(left, line), append(want, told[i])
			}
		}
		b, _ := impl.BrokerOf(script(lines...))
		other, ok := impl.BrokerOf(script(left...))
		if got := answersOf(impl.RunBroker(script(left...))); !slices.Equal(got, want) || !sameBroker(b, other) || !ok {
			t.Errorf("%q: %q, %s; want %q, %s", left, got, shownBroker(other), want, shownBroker(b))
		}
	}
}

// kindOf tells answers of one kind alike: what is told behind the name may be none, one or more.
func kindOf(answer string) string {
	w := strings.Split(answer, " ")
	if w[0] == "code" || answer == "lost 0" {
		return answer
	}
	return w[0] + []string{"", " .", " .."}[min(len(w)-1, 2)]
}

func TestDrawnScripts(t *testing.T) {
	r := rand.New(rand.NewSource(185))
	kinds := map[string]int{}
	for i := range 600 {
		lines := drawnLines(r, 80)
		if i%3 == 0 {
			lines = drawnTalk(r, 80)
		}
		for _, answer := range linesAs(t, lines...) {
			kinds[kindOf(answer)]++
		}
	}
	for _, kind := range []string{"ok", "no", "no .", "code 1", "code 3", "note ..", "lost 0", "lost .", "is .", "is ..", "bad .", "with", "with .", "with ..", "not", "at", "at .", "at ..", "yes", "what"} {
		if kinds[kind] < 25 {
			t.Errorf("%s: just %d", kind, kinds[kind])
		}
		delete(kinds, kind)
	}
	if len(kinds) > 0 {
		t.Error("of no kind:", kinds)
	}
}

// All short scripts of a few lines, the wrong ones, too.
func TestAllShortScripts(t *testing.T) {
	lines := []string{"fan 1 3 0 a", "fan 2 4 1 #", "post 1 a", "text 0 x a/b", "take 1", "take 2", "lost 2", "fan 1 1 1 A", "post 1 b", "post  1 a"}
	for _, play := range textsOver("0123456789", 0, 3) {
		var l []string
		for _, letter := range play {
			l = append(l, lines[letter-'0'])
		}
		linesAs(t, l...)
	}
}
