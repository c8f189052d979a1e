package tests

import (
	"math"
	"slices"
	"strconv"
	"strings"
	"sync"
	"testing"

	"loop.example/g00333/impl"
)

func anySteps() []impl.SesStep {
	l := manySteps()
	for _, n := range anyNumbers() {
		l = append(l, impl.SesStep{Kind: n, K: n}, impl.SesStep{Kind: n, Text: "a"}, impl.SesStep{Kind: impl.SesCut, K: n})
		for kind := range 9 {
			l = append(l, impl.SesStep{Kind: kind, K: n}, impl.SesStep{Kind: kind, K: n, Text: "a"})
		}
	}
	for _, text := range anyTexts() {
		l = append(l, impl.SesStep{Kind: impl.SesPush, Text: text}, impl.SesStep{Text: text}, impl.SesStep{Kind: impl.SesTake, Text: text})
	}
	return l
}

func anySessions() map[string]impl.Session {
	l := goodSessions()
	for name, s := range wrongSessions() {
		l["wrong: "+name] = s
	}
	of := "2 1 2 a,b,c,d,e,f 1.0,2.3 1.1,2.2"
	for _, n := range anyNumbers() {
		name := strconv.Itoa(n)
		l["all are "+name] = impl.Session{Epoch: n, Items: []string{"a"}, Base: n, Way: []impl.Packet{{Epoch: n, No: n}}, Acks: []impl.Ack{{Epoch: n, Upto: n}}}
		l["epoch "+name] = bent(of, func(s *impl.Session) { s.Epoch = n })
		l["base "+name] = bent(of, func(s *impl.Session) { s.Base = n })
		l["packet's epoch "+name] = bent(of, func(s *impl.Session) { s.Way[0].Epoch = n })
		l["packet "+name] = bent(of, func(s *impl.Session) { s.Way[1].No = n })
		l["ack's epoch "+name] = bent(of, func(s *impl.Session) { s.Acks[0].Epoch = n })
		l["ack "+name] = bent(of, func(s *impl.Session) { s.Acks[1].Upto = n })
	}
	for i, text := range anyTexts() {
		name := "text " + strconv.Itoa(i)
		l[name+", an item"] = impl.Session{Epoch: 1, Items: []string{text}}
		l[name+", handed on"] = impl.Session{Epoch: 1, Items: []string{text, "a"}, Base: 1, Handed: []string{text}, Way: []impl.Packet{{Epoch: 1, Text: text}}}
		l[name+", handed on alone"] = impl.Session{Epoch: 1, Handed: []string{text}}
		l[name+", another was handed on"] = impl.Session{Epoch: 1, Items: []string{"a"}, Handed: []string{text}}
		l[name+", a packet's"] = impl.Session{Epoch: 1, Items: []string{"a"}, Way: []impl.Packet{{Epoch: 1, Text: text}}}
		l[name+", a packet's alone"] = impl.Session{Epoch: 1, Way: []impl.Packet{{Epoch: 1, Text: text}}}
	}
	return l
}

func anyPlays() map[string][]impl.SesStep {
	l := map[string][]impl.SesStep{"nil": nil, "empty": {}, "very many": make([]impl.SesStep, 1<<16)}
	for i, x := range anySteps() {
		name := "step " + strconv.Itoa(i)
		l[name] = []impl.SesStep{x}
		l[name+", 200 times"] = slices.Repeat([]impl.SesStep{x}, 200)
		l[name+", 201 times"] = slices.Repeat([]impl.SesStep{x}, 201)
		l[name+", among others"] = append(append(sesSteps("push b; send 0; send 1; take 0"), x), sesSteps("take 0; ack 0; send 1; cut; twice 0")...)
	}
	return l
}

// sessionMemory is all of the lists that a session is made of, and what lies behind them.
type sessionMemory struct {
	items, handed []string
	way           []impl.Packet
	acks          []impl.Ack
}

// behindSession lays behind each list's length what would change each answer, wrong things too.
func behindSession(s impl.Session) (impl.Session, sessionMemory) {
	m := sessionMemory{
		items:  append(slices.Clone(s.Items), "behind", "", strings.Repeat("x", 21)),
		handed: append(slices.Clone(s.Handed), append(slices.Clone(s.Items[min(len(s.Handed), len(s.Items)):]), "behind")...),
		way:    append(slices.Clone(s.Way), impl.Packet{Epoch: s.Epoch, No: len(s.Handed), Text: itemOr(s.Items, len(s.Handed))}, impl.Packet{Epoch: math.MaxInt, No: -1}),
		acks:   append(slices.Clone(s.Acks), impl.Ack{Epoch: s.Epoch, Upto: len(s.Handed)}, impl.Ack{Epoch: -1, Upto: math.MaxInt}),
	}
	given := impl.Session{Epoch: s.Epoch, Base: s.Base, Items: m.items[:len(s.Items)], Handed: m.handed[:len(s.Handed)], Way: m.way[:len(s.Way)], Acks: m.acks[:len(s.Acks)]}
	return given, m
}

func (m sessionMemory) copied() sessionMemory {
	return sessionMemory{slices.Clone(m.items), slices.Clone(m.handed), slices.Clone(m.way), slices.Clone(m.acks)}
}

func (m sessionMemory) isAs(other sessionMemory) bool {
	return slices.Equal(m.items, other.items) && slices.Equal(m.handed, other.handed) && slices.Equal(m.way, other.way) && slices.Equal(m.acks, other.acks)
}

// A panic in any of these fails the test by itself.
func TestSessionsAnswerAtAnySessionsAndSteps(t *testing.T) {
	good := 0
	for name, s := range anySessions() {
		given, memory := behindSession(s)
		before := memory.copied()
		isGood := wantGoodSession(s)
		if isGood {
			good++
		}
		if got := impl.GoodSession(given); got != isGood {
			t.Errorf("%s: GoodSession(%s) = %v", name, shownSession(s), got)
		}
		pending, okPending := wantPending(s)
		if got, ok := impl.PendingIn(given); !slices.Equal(got, pending) || ok != okPending {
			t.Errorf("%s: PendingIn(%s) = %.80q, %v; want %q, %v", name, shownSession(s), got, ok, pending, okPending)
		}
		calm, sent, okCalm := wantCalmed(s)
		if got, told, ok := impl.CalmSession(given); !sameSession(got, calm) || told != sent || ok != okCalm {
			t.Errorf("%s: CalmSession(%s) = %s, %d, %v; want %s, %d, %v", name, shownSession(s), shownSession(got), told, ok, shownSession(calm), sent, okCalm)
		}
		for _, x := range anySteps() {
			want, okWant := wantStepped(s, x)
			if got, ok := impl.StepSession(given, x); !sameSession(got, want) || ok != okWant {
				t.Errorf("%s: StepSession(%s, %d %d %.40q) = %s, %v; want %s, %v", name, shownSession(s), x.Kind, x.K, x.Text, shownSession(got), ok, shownSession(want), okWant)
			}
		}
		if !memory.isAs(before) {
			t.Fatalf("%s: it was written into", name)
		}
	}
	if good < 100 {
		t.Error("too few are good:", good)
	}
}

func TestPlaysAnswerAtAnyTextsAndSteps(t *testing.T) {
	for _, first := range append(anyTexts(), strings.Repeat("a", 20), strings.Repeat("a", 21)) {
		want := impl.Session{}
		if len(first) < 21 {
			want = impl.Session{Epoch: 1, Items: []string{first}}
		}
		if got, ok := impl.NewSession(first); !sameSession(got, want) || ok != (len(first) < 21) {
			t.Errorf("NewSession(%.40q) = %s, %v", first, shownSession(got), ok)
		}
		playedAs(t, first, nil)
		playedAs(t, first, sesSteps("push b; send 0; send 1; take 0; cut"))
		playedAs(t, first, make([]impl.SesStep, 201))
	}
	for name, l := range anyPlays() {
		memory := append(slices.Clone(l), impl.SesStep{Kind: impl.SesPush, Text: "behind"}, impl.SesStep{Kind: impl.SesCut})
		before := slices.Clone(memory)
		playedAs(t, "first", memory[:len(l)])
		if !slices.Equal(memory, before) {
			t.Fatalf("%s: they were written into", name)
		}
	}
}

// What lies behind a list's length is no part of it.
func TestSessionsDoNotReadBehindTheLength(t *testing.T) {
	for name, s := range goodSessions() {
		given, _ := behindSession(s)
		if !impl.GoodSession(given) {
			t.Errorf("%s: it is not good by what lies behind it", name)
		}
		for _, x := range manySteps() {
			steppedAs(t, name, given, x)
		}
		calmedAs(t, name, given)
	}
	items := manyItems(40, 6)
	way := slices.Repeat([]impl.Packet{{Epoch: 1, Text: items[0]}}, 20)
	acks := slices.Repeat([]impl.Ack{{Epoch: 1}}, 20)
	for many := 1; many <= 30; many++ {
		s := impl.Session{Epoch: 1, Items: items[:many], Handed: items[:many/2], Way: way[:many*12/30], Acks: acks[:many*12/30]}
		if left, ok := impl.PendingIn(s); !slices.Equal(left, items[many/2:many]) || !ok {
			t.Errorf("PendingIn of the first %d of 40 items = %q, %v", many, left, ok)
		}
		steppedAs(t, "a push", s, impl.SesStep{Kind: impl.SesPush, Text: "more"})
		steppedAs(t, "a send", s, impl.SesStep{Kind: impl.SesSend})
		steppedAs(t, "a take", s, impl.SesStep{Kind: impl.SesTake})
		steppedAs(t, "one twice", s, impl.SesStep{Kind: impl.SesTwice})
		calmedAs(t, "calm", s)
	}
	if !slices.Equal(items, manyItems(40, 6)) || way[0] != way[19] || acks[0] != acks[19] {
		t.Error("lists were written into:", items, way, acks)
	}
}

// textsOfSession is all texts that it has, list by list.
func textsOfSession(s impl.Session) []string {
	texts := slices.Concat(s.Items, s.Handed)
	for _, p := range s.Way {
		texts = append(texts, p.Text)
	}
	return texts
}

// behindSessionIsEmpty: whether an answer hands out nothing behind its lists' lengths.
func behindSessionIsEmpty(s impl.Session) bool {
	for _, p := range s.Way[len(s.Way):cap(s.Way)] {
		if p != (impl.Packet{}) {
			return false
		}
	}
	for _, a := range s.Acks[len(s.Acks):cap(s.Acks)] {
		if a != (impl.Ack{}) {
			return false
		}
	}
	return behindAreEmpty(s.Items) && behindAreEmpty(s.Handed)
}

// spoilSession writes over all that an answer hands out, and behind it.
func spoilSession(s impl.Session) {
	_, _ = append(s.Way, impl.Packet{No: 77}), append(s.Acks, impl.Ack{Upto: 77})
	_, _ = append(s.Items, "spoilt"), append(s.Handed, "spoilt")
	spoilTexts(s.Items)
	spoilTexts(s.Handed)
	way, acks := s.Way[:cap(s.Way)], s.Acks[:cap(s.Acks)]
	for i := range way {
		way[i] = impl.Packet{Epoch: 77, No: 77, Text: "spoilt"}
	}
	for i := range acks {
		acks[i] = impl.Ack{Epoch: 77, Upto: 77}
	}
}

// sharesWithin: whether two of a session's texts have one memory.
func sharesWithin(s impl.Session) bool {
	texts := textsOfSession(s)
	for i := range texts {
		if shareAnyText(texts[:i], texts[i:i+1]) {
			return true
		}
	}
	return false
}

// newMemory asks twice, spoils the first answer, and holds the second one and a third one against it.
func newMemory(t *testing.T, name string, given []string, answer func() impl.Session) {
	t.Helper()
	first, second := answer(), answer()
	want := ownSession(second)
	if !behindSessionIsEmpty(first) {
		t.Errorf("%s hands out what lies behind: %s", name, shownSession(first))
	}
	if shareAnyText(textsOfSession(first), given) {
		t.Errorf("%s: a text shares the argument's memory: %s", name, shownSession(first))
	}
	if sharesWithin(first) {
		t.Errorf("%s: two texts of the answer share memory: %s", name, shownSession(first))
	}
	spoilTexts(first.Items)
	if !slices.Equal(first.Handed, want.Handed) || !slices.Equal(first.Way, want.Way) {
		t.Errorf("%s: two lists of the answer share memory: %s", name, shownSession(first))
	}
	spoilSession(first)
	if !sameSession(second, want) || !sameSession(answer(), want) {
		t.Errorf("%s: two answers share memory: %s", name, shownSession(second))
	}
}

func TestSessionsHandOutNewMemory(t *testing.T) {
	pushed := strings.Clone("pushed")
	for name, s := range goodSessions() {
		own := ownSession(s)
		given, memory := behindSession(own)
		before := memory.copied()
		texts := append(textsOfSession(own), pushed)
		for _, x := range append(manySteps(), impl.SesStep{Kind: impl.SesPush, Text: pushed}) {
			newMemory(t, name+", step "+strconv.Itoa(x.Kind), texts, func() impl.Session { got, _ := impl.StepSession(given, x); return got })
		}
		newMemory(t, name+", calm", texts, func() impl.Session { got, _, _ := impl.CalmSession(given); return got })
		first, _ := impl.PendingIn(given)
		second, _ := impl.PendingIn(given)
		if !behindAreEmpty(first) || shareAnyText(first, texts) || shareAnyText(first, second) {
			t.Errorf("%s: PendingIn hands out memory that is not its own: %q", name, first)
		}
		_ = append(first, "spoilt")
		spoilTexts(first)
		if !slices.Equal(second, own.Items[len(own.Handed):]) {
			t.Errorf("%s: two answers of PendingIn share memory: %q", name, second)
		}
		if !memory.isAs(before) {
			t.Errorf("%s: it was written into", name)
		}
	}
}

func TestPlaysHandOutNewMemory(t *testing.T) {
	first, pushed := strings.Clone("first"), strings.Clone("pushed")
	l := append(sesSteps("send 0; take 0; send 0; twice 0"), impl.SesStep{Kind: impl.SesPush, Text: pushed}, impl.SesStep{Kind: impl.SesSend, K: 1})
	before := slices.Clone(l)
	for many := range len(l) + 1 {
		newMemory(t, "PlaySession", []string{first, pushed}, func() impl.Session { s, _, _ := impl.PlaySession(first, l[:many]); return s })
		_, did, _ := impl.PlaySession(first, l[:many])
		_, again, _ := impl.PlaySession(first, l[:many])
		if slices.Contains(did[len(did):cap(did)], true) {
			t.Errorf("what lies behind is handed out: %v", did[:cap(did)])
		}
		spoilBools(did)
		if len(again) != many || slices.Contains(again, false) {
			t.Errorf("two answers share memory: %v", again)
		}
	}
	newMemory(t, "NewSession", []string{first}, func() impl.Session { s, _ := impl.NewSession(first); return s })
	if !slices.Equal(l, before) {
		t.Error("the steps were written into:", l)
	}
}

func TestSessionsAnswerTheSameFromManySides(t *testing.T) {
	l := sesSteps("push b; send 0; send 1; take 0; twice 0; cut; take 0; ack 0; send 1; push c")
	given := session("2 0 1 a,b,c 1.0,2.1,2.2 1.1")
	want, _, _ := wantPlayed("a", l)
	stepped, _ := wantStepped(given, sesStep("take 1"))
	calm, sent, _ := wantCalmed(given)
	var joined sync.WaitGroup
	for i := range 16 {
		joined.Go(func() {
			for range 100 {
				played, did, okPlayed := impl.PlaySession("a", l)
				next, okNext := impl.StepSession(given, sesStep("take 1"))
				end, many, okEnd := impl.CalmSession(given)
				left, okLeft := impl.PendingIn(given)
				if !sameSession(played, want) || len(did) != len(l) || !sameSession(next, stepped) || !sameSession(end, calm) || many != sent || !slices.Equal(left, []string{"b", "c"}) {
					t.Errorf("%d: %s, %v, %s, %s, %d, %q", i, shownSession(played), did, shownSession(next), shownSession(end), many, left)
				}
				fresh, okFresh := impl.NewSession("a")
				if !impl.GoodSession(given) || !impl.GoodSession(fresh) || !okPlayed || !okNext || !okEnd || !okLeft || !okFresh {
					t.Errorf("%d: sessions that were good are not", i)
				}
			}
		})
	}
	joined.Wait()
}
