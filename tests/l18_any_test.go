package tests

import (
	"math/rand"
	"runtime"
	"strconv"
	"strings"
	"sync"
	"testing"

	"loop.example/g00333/impl"
)

// anyScripts is any texts, alone and in each place of each line.
func anyScripts() []string {
	r := rand.New(rand.NewSource(186))
	texts := append(anyTexts(), anySources()...)
	texts = append(texts, wrongNumerals...)
	for _, n := range anyNumbers() {
		texts = append(texts, strconv.Itoa(n))
	}
	l := append([]string{strings.Repeat("\n", 1<<20), strings.Repeat("post 1 a\n", 1<<16), strings.Repeat(" ", 2499) + "\n", strings.Repeat(" \n", 80)}, texts...)
	for _, text := range texts {
		l = append(l, text+"\n")
		if len(text) > 2500 {
			continue
		}
		for _, line := range []string{"fan T 1 1 a", "fan 1 T 1 a", "fan 1 1 T a", "fan 1 4 T a", "fan 1 1 1 T", "post T a", "post 1 T", "text T x a", "text 1 T a", "text 1 x T",
			"take T", "lost T", "schema T", "term T a", "term a T", "term T T", "find T a", "find a T", "find T T", "fits T a", "fits a T", "T 1 1 1 a", "T"} {
			l = append(l, strings.ReplaceAll(line, "T", text)+"\npost 1 a\n")
		}
	}
	for range 2000 {
		l = append(l, randomOver(r, "fan post take 01 a/b+#-\n\n\n \x00\xff", 0, 300)+"\n")
	}
	for b := range 256 {
		l = append(l, string([]byte{byte(b)}), string([]byte{byte(b), '\n'}), "post 1"+string([]byte{byte(b)})+"a\nfits"+string([]byte{byte(b)})+"a a\n")
	}
	return l
}

// A panic in any of these fails the test by itself.
func TestLinesAnswerAtAnyTexts(t *testing.T) {
	scripts := 0
	for _, text := range anyScripts() {
		if _, _, ok := ranAs(t, text); ok {
			scripts++
		}
	}
	if scripts < 5000 {
		t.Error("too few are scripts:", scripts)
	}
}

// A text may be a piece of a longer one, which is neither read nor handed out.
func TestScriptsAreNotReadBehindTheLength(t *testing.T) {
	whole := script(drawnTalk(rand.New(rand.NewSource(187)), 60)...)
	for at := range len(whole) {
		text := whole[:at]
		told, b, ok := ranAs(t, text)
		again := strings.Clone(text)
		if other, okOther := impl.BrokerOf(again); impl.RunBroker(again) != told || !sameBroker(other, b) || okOther != ok {
			t.Errorf("the first %d bytes: %q, %s, %v", at, told, shownBroker(b), ok)
		}
	}
}

func TestLinesHandOutNewMemory(t *testing.T) {
	r := rand.New(rand.NewSource(188))
	for i := range 100 {
		lines := drawnTalk(r, 40)
		if i%2 == 0 {
			lines = drawnLines(r, 80)
		}
		if i == 0 {
			lines = []string{"schema {}"}
		}
		text := script(lines...)
		first, _ := impl.BrokerOf(text)
		second, _ := impl.BrokerOf(text)
		told, again := impl.RunBroker(text), impl.RunBroker(text)
		all := append(stretchesOf(first), stretchesOf(second)...)
		all = append(all, stretchOfText(text), stretchOfText(told), stretchOfText(again))
		if shareMemory(all) {
			t.Errorf("%q: an answer shares memory", lines)
		}
		if !behindIsZero(first) {
			t.Errorf("%q: what lies behind is handed out: %s", lines, shownBroker(wholeMemory(first)))
		}
		// What is not kept may lend its memory to what comes later.
		runtime.KeepAlive([]any{text, first, second, told, again})
	}
}

// What is written into an answer changes no later one.
func TestWhatIsSpoiltInTheBrokerInTheEndIsItsAlone(t *testing.T) {
	text := script("fan 7 3 1 #", "post 5 a", "text 6 x a/b", "lost 7")
	told, want, _ := wantRunLines(text)
	b, _ := impl.BrokerOf(text)
	for i := range b.Topics {
		b.Topics[i].Schema.Types[0] = impl.Type{Kind: 77}
		b.Topics[i] = impl.Topic{Count: 77}
	}
	for i, f := range b.Fans {
		spoilWants(f.Filter)
		f.View.Types[0] = impl.Type{Kind: 77}
		f.Inbox[0] = impl.Note{No: 77}
		b.Fans[i] = impl.Fan{Who: 77}
	}
	if other, ok := impl.BrokerOf(text); !sameBroker(other, want) || !ok || impl.RunBroker(text) != told {
		t.Errorf("memory is shared: %s, %v", shownBroker(other), ok)
	}
}

func TestLinesAnswerTheSameFromManySides(t *testing.T) {
	text := script(drawnTalk(rand.New(rand.NewSource(189)), 60)...)
	told, want, _ := wantRunLines(text)
	var joined sync.WaitGroup
	for range 16 {
		joined.Go(func() {
			for range 20 {
				b, ok := impl.BrokerOf(text)
				if got := impl.RunBroker(text); got != told || !sameBroker(b, want) || !ok {
					t.Errorf("%q, %s, %v", got, shownBroker(b), ok)
				}
			}
		})
	}
	joined.Wait()
}
