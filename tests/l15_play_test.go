package tests

import (
	"fmt"
	"math/rand"
	"slices"
	"strconv"
	"strings"
	"testing"

	"loop.example/g00333/impl"
)

func playedAs(t *testing.T, first string, l []impl.SesStep) (impl.Session, []bool) {
	t.Helper()
	want, did, okWant := wantPlayed(first, l)
	s, told, ok := impl.PlaySession(first, l)
	if !sameSession(s, want) || !slices.Equal(told, did) || ok != okWant {
		t.Errorf("PlaySession(%.40q, %d steps) = %s, %v, %v; want %s, %v, %v", first, len(l), shownSession(s), told, ok, shownSession(want), did, okWant)
	}
	if impl.GoodSession(s) != ok {
		t.Errorf("PlaySession(%.40q, %d steps), %v, is good: %v: %s", first, len(l), ok, !ok, shownSession(s))
	}
	return s, told
}

func TestPlaySessionByHand(t *testing.T) {
	for _, row := range []struct {
		steps, did, want string
	}{
		{"send 0", "+", "1 0 0 a 1.0 -"},
		{"send 1", "-", "1 0 0 a - -"},
		{"push b; send 1; send 0; take 0; take 0; cut; ack 0", "+++++++", "2 1 1 a,b - 1.1"},
		{"send 0; take 0; ack 0", "+++", "1 1 1 a - -"},
		{"send 0; take 0; ack 0; send 0; send 1", "+++--", "1 1 1 a - -"},
		{"send 0; take 0; send 0; take 0; ack 0", "+++++", "1 1 1 a - 1.1"},
		{"send 0; twice 0; take 0; take 0; take 0", "++++-", "1 0 1 a - 1.1,1.1"},
		{"send 0; lose 0; take 0; send 0; take 0", "++-++", "1 0 1 a - 1.1"},
		{"push b; push c; push d; push e; send 3; send 4; send 0; take 1; ack 0; send 4; send 5", "+++++-++++-", "1 1 1 a,b,c,d,e 1.3,1.4 -"},
		{"push b; send 0; send 1; take 1; take 0; ack 1; ack 0; send 0; send 1; take 0; ack 0", "+++++++-+++", "1 2 2 a,b - -"},
		{"send 0; cut; take 0; send 0; take 0; ack 0", "++++++", "2 1 1 a - -"},
		{"send 0; take 0; cut; send 0; ack 0; push b; send 1; take 0; ack 0", "+++-+++++", "2 2 2 a,b - -"},
		{"send 0; cut; cut; twice 0; take 1; lose 0; ack 0", "++++++-", "3 0 0 a - -"},
		{"take 0; lose 0; twice 0; ack 0", "----", "1 0 0 a - -"},
	} {
		var did []bool
		for _, mark := range row.did {
			did = append(did, mark == '+')
		}
		s, told, ok := impl.PlaySession("a", sesSteps(row.steps))
		if !sameSession(s, session(row.want)) || !slices.Equal(told, did) || !ok {
			t.Errorf("%s: %s, %v, %v; want %s, %v", row.steps, shownSession(s), told, ok, row.want, did)
		}
		playedAs(t, "a", sesSteps(row.steps))
	}
}

func TestPlaySessionOfManySteps(t *testing.T) {
	for long := range 24 {
		first := strings.Repeat("f", long)
		s, did := playedAs(t, first, nil)
		if long <= 20 && !sameSession(s, impl.Session{Epoch: 1, Items: []string{first}}) || len(did) != 0 {
			t.Errorf("of no steps, %q: %s, %v", first, shownSession(s), did)
		}
		for _, many := range []int{1, 2, 199, 200, 201, 202, 1 << 12} {
			s, did := playedAs(t, first, slices.Repeat([]impl.SesStep{{Kind: impl.SesCut}}, many))
			want := many + 1
			if many > 200 || long > 20 {
				want, many = 0, 0
			}
			if s.Epoch != want || len(did) != many || slices.Contains(did, false) {
				t.Errorf("of %d cuts, %q: %s, %v", many, first, shownSession(s), did)
			}
			playedAs(t, first, make([]impl.SesStep, many))
		}
	}
}

// What can't be done changes nothing: without it all is the same.
func TestStepsThatCannotBeDoneChangeNothing(t *testing.T) {
	r := rand.New(rand.NewSource(151))
	refused := 0
	for range 500 {
		l := drawnSteps(r, r.Intn(201))
		s, did := playedAs(t, "first", l)
		var left []impl.SesStep
		for i, x := range l {
			if did[i] {
				left = append(left, x)
			}
		}
		refused += len(l) - len(left)
		again, all := playedAs(t, "first", left)
		if !sameSession(s, again) || slices.Contains(all, false) {
			t.Errorf("%s; without what can't be done %s, %v", shownSession(s), shownSession(again), all)
		}
	}
	if refused < 1000 {
		t.Error("too few can't be done:", refused)
	}
}

func TestPlaySessionIsStepSessionEach(t *testing.T) {
	r := rand.New(rand.NewSource(152))
	for range 60 {
		l := drawnSteps(r, 200)
		s, _ := impl.NewSession("first")
		var did []bool
		for i, x := range l {
			played, told := playedAs(t, "first", l[:i])
			if !sameSession(played, s) || !slices.Equal(told, did) {
				t.Fatalf("the first %d steps: %s, %v; each: %s, %v", i, shownSession(played), told, shownSession(s), did)
			}
			next, ok := steppedAs(t, "each", s, x)
			if did = append(did, ok); ok {
				s = next
			}
		}
	}
}

func calmedAs(t *testing.T, name string, s impl.Session) (impl.Session, int) {
	t.Helper()
	want, sent, okWant := wantCalmed(s)
	got, told, ok := impl.CalmSession(s)
	if !sameSession(got, want) || told != sent || ok != okWant {
		t.Errorf("%s: CalmSession(%s) = %s, %d, %v; want %s, %d, %v", name, shownSession(s), shownSession(got), told, ok, shownSession(want), sent, okWant)
	}
	if impl.GoodSession(got) != ok {
		t.Errorf("%s: CalmSession(%s), %v, is good: %v: %s", name, shownSession(s), ok, !ok, shownSession(got))
	}
	return got, told
}

func TestCalmSessionByHand(t *testing.T) {
	for _, row := range []struct {
		name, given string
		sent        int
	}{
		{"no items", "1 0 0 - - -", 0},
		{"no items, acks", "2 0 0 - - 1.0,2.0", 0},
		{"nothing to do", "3 2 2 a,b - -", 0},
		{"all was handed on, all known, more on its way", "3 2 2 a,b 2.1,3.0,3.1 2.2,3.1,3.2", 0},

		{"one was never sent", "1 0 0 a - -", 1},
		{"one is on its way", "1 0 0 a 1.0 -", 0},
		{"one is on its way, doubled", "1 0 0 a 1.0,1.0,1.0 -", 0},
		{"one is on its way, elder", "2 0 0 a 1.0 -", 1},
		{"one is on its way, elder, and anew", "2 0 0 a 1.0,2.0,1.0 -", 0},

		{"handed on, its ack was lost", "1 0 1 a - -", 1},
		{"handed on, its ack is on its way", "1 0 1 a - 1.1", 0},
		{"handed on, its ack is elder", "2 0 1 a - 1.1", 1},
		{"handed on, an ack of less", "2 0 1 a - 2.0", 1},
		{"several handed on, none known", "1 0 3 a,b,c - -", 1},
		{"several handed on, none known, and more items", "1 0 3 a,b,c,d,e - -", 3},
		{"several handed on, one known", "1 0 3 a,b,c,d,e - 1.1,1.0", 3},
		{"several handed on, all known by an ack", "1 0 3 a,b,c,d,e - 1.1,1.3,1.2", 2},
		{"several handed on, all known by a packet", "1 0 3 a,b,c,d,e 1.0 -", 2},
		{"several handed on, a packet of an elder epoch", "2 0 3 a,b,c,d,e 1.0 -", 3},

		{"more than a window, none sent", "1 0 0 a,b,c,d,e,f,g,h,i - -", 9},
		{"more than a window, one known", "1 1 1 a,b,c,d,e,f,g,h,i - -", 8},
		{"a window sent in order", "1 0 0 a,b,c,d,e,f,g,h,i 1.0,1.1,1.2,1.3 -", 5},
		{"a window sent the other way round", "1 0 0 a,b,c,d,e,f,g,h,i 1.3,1.2,1.1,1.0 -", 8},
		{"a window sent, the first one lost", "1 0 0 a,b,c,d,e,f,g,h,i 1.1,1.2,1.3 -", 9},
		{"a window sent, elder ones among them", "2 0 0 a,b,c,d,e,f,g,h,i 2.0,1.1,2.2,2.1,1.2,2.3 -", 7},
		{"thirty", "1 0 0 " + letters(30) + " - -", 30},
		{"thirty, at epoch 1000", "1000 0 0 " + letters(30) + " 1000.0,999.1 -", 29},
		{"thirty, all handed on", "1000 0 30 " + letters(30) + " - -", 1},

		{"the way is full", "1 0 0 a,b " + timesOnWay(12, "1.0") + " -", 1},
		{"the way is full of elder ones", "2 0 0 a,b " + timesOnWay(12, "1.0") + " -", 2},
		{"the way is full, the right ones last", "1 0 0 a,b,c " + timesOnWay(10, "1.1") + ",1.0,1.1 -", 1},
		{"the acks are full", "1 0 1 a,b - " + timesOnWay(12, "1.1"), 1},
		{"the acks are full, the right one last", "2 0 1 a,b - " + timesOnWay(11, "1.1") + ",2.1", 1},
		{"the acks are full, a packet tells more", "1 0 0 a,b 1.0 " + timesOnWay(12, "1.0"), 1},
		{"the acks are full, packets tell all", "1 0 0 a,b 1.0,1.1 " + timesOnWay(12, "1.0"), 0},
		{"both are full", "1 0 1 a,b,c " + timesOnWay(12, "1.1") + " " + timesOnWay(12, "1.0"), 1},
		{"both are full of elder ones", "2 0 1 a,b,c " + timesOnWay(12, "1.1") + " " + timesOnWay(12, "1.1"), 3},
	} {
		given := session(row.given)
		all := impl.Session{Epoch: given.Epoch, Items: given.Items, Base: len(given.Items), Handed: given.Items}
		got, sent, ok := impl.CalmSession(given)
		if !sameSession(got, all) || sent != row.sent || !ok {
			t.Errorf("%s: CalmSession(%s) = %s, %d, %v; want %d, true", row.name, row.given, shownSession(got), sent, ok, row.sent)
		}
		if !sameSession(given, session(row.given)) {
			t.Errorf("%s: it was written into: %s", row.name, shownSession(given))
		}
		calmedAs(t, row.name, given)
	}
}

func TestCalmSessionOfSessions(t *testing.T) {
	for name, s := range goodSessions() {
		calm, _ := calmedAs(t, name, s)
		if again, sent := calmedAs(t, name+", calm", calm); !sameSession(again, calm) || sent != 0 {
			t.Errorf("%s: what is calm has changed: %s, %d", name, shownSession(again), sent)
		}
		if left, ok := impl.PendingIn(calm); len(left) != 0 || !ok {
			t.Errorf("%s: when it is calm %q are left, %v", name, left, ok)
		}
	}
	for name, s := range wrongSessions() {
		if got, sent, ok := impl.CalmSession(s); !sameSession(got, impl.Session{}) || sent != 0 || ok {
			t.Errorf("%s: CalmSession(%s) = %s, %d, %v", name, shownSession(s), shownSession(got), sent, ok)
		}
	}
	r := rand.New(rand.NewSource(153))
	for i := range 20000 {
		calmedAs(t, strconv.Itoa(i), drawnSession(r))
	}
}

// calmByStep does by StepSession what the document tells of CalmSession.
func calmByStep(t *testing.T, s impl.Session) (impl.Session, int) {
	t.Helper()
	each := func(kind, k int) {
		next, ok := impl.StepSession(s, impl.SesStep{Kind: kind, K: k})
		if !ok {
			t.Fatalf("StepSession(%s, %d %d) can't be done", shownSession(s), kind, k)
		}
		s = next
	}
	takeAll := func() {
		for {
			for len(s.Acks) > 0 {
				each(impl.SesAck, 0)
			}
			if len(s.Way) == 0 {
				return
			}
			each(impl.SesTake, 0)
		}
	}
	takeAll()
	sent := 0
	for s.Base < len(s.Items) {
		each(impl.SesSend, s.Base)
		sent++
		takeAll()
	}
	return s, sent
}

func TestCalmSessionIsStepSessionEach(t *testing.T) {
	r := rand.New(rand.NewSource(154))
	sessions := goodSessions()
	for i := range 2000 {
		sessions["drawn as well "+strconv.Itoa(i)] = drawnSession(r)
	}
	for name, s := range sessions {
		got, sent := calmedAs(t, name, s)
		if want, wantSent := calmByStep(t, s); !sameSession(got, want) || sent != wantSent {
			t.Errorf("%s: CalmSession(%s) = %s, %d; by steps %s, %d", name, shownSession(s), shownSession(got), sent, shownSession(want), wantSent)
		}
	}
}

// witness knows what was pushed and what was handed on, whatever the session itself tells of it.
type witness struct {
	pushed, handed []string
}

// see is asked behind each step, with the session that it led to.
func (w *witness) see(t *testing.T, x impl.SesStep, s impl.Session) {
	t.Helper()
	if x.Kind == impl.SesPush {
		w.pushed = append(w.pushed, x.Text)
	}
	if more := len(s.Handed) - len(w.handed); more > 1 || more == 1 && x.Kind != impl.SesTake {
		t.Errorf("step %d %d hands on %d: %s", x.Kind, x.K, more, shownSession(s))
	}
	if len(s.Handed) < len(w.handed) || !slices.Equal(s.Handed[:len(w.handed)], w.handed) {
		t.Errorf("step %d %d takes back what was handed on, %q: %s", x.Kind, x.K, w.handed, shownSession(s))
	}
	w.handed = slices.Clone(s.Handed)
	w.holds(t, s)
}

// holds: what was handed on is what was pushed, in order, each once.
func (w *witness) holds(t *testing.T, s impl.Session) {
	t.Helper()
	if len(s.Handed) > len(w.pushed) || !slices.Equal(s.Handed, w.pushed[:len(s.Handed)]) || !slices.Equal(s.Items, w.pushed) {
		t.Errorf("%q were handed on, of %q: %s", s.Handed, w.pushed, shownSession(s))
	}
	counted := map[string]int{}
	for _, text := range s.Handed {
		if counted[text]++; counted[text] > 1 {
			t.Errorf("%q was handed on %d times: %s", text, counted[text], shownSession(s))
		}
	}
}

// holdsInTheEnd: once nothing is lost all is handed on.
func (w *witness) holdsInTheEnd(t *testing.T, s impl.Session) int {
	t.Helper()
	calm, sent := calmedAs(t, "in the end", s)
	if !slices.Equal(calm.Handed, w.pushed) || len(calm.Way) > 0 || len(calm.Acks) > 0 || calm.Base != len(w.pushed) || calm.Epoch != s.Epoch {
		t.Errorf("%q were pushed; in the end %s", w.pushed, shownSession(calm))
	}
	return sent
}

// Promise 15.
func TestWhatIsHandedOnIsTheItemsInOrderAndOnce(t *testing.T) {
	r := rand.New(rand.NewSource(155))
	seen := map[string]int{}
	for range 1500 {
		l := drawnSteps(r, 200)
		s, _ := impl.NewSession("first")
		w := witness{pushed: []string{"first"}}
		for _, x := range l {
			count(seen, s, x)
			if next, ok := impl.StepSession(s, x); ok {
				s = next
				w.see(t, x, s)
			}
		}
		played, _ := playedAs(t, "first", l)
		w.holds(t, played)
		if w.holdsInTheEnd(t, played) > 0 {
			seen["something was left to send"]++
		}
		if len(s.Handed) > 15 {
			seen["more than half was handed on"]++
		}
	}
	for _, name := range []string{
		"taken next", "taken again", "taken too far ahead", "taken of an elder epoch", "taken of an elder epoch, next", "acks full", "way full", "items full",
		"ack of more", "ack of less", "ack of an elder epoch", "cut with packets", "cut with acks", "cut, more known", "lost next", "twice", "something was left to send", "more than half was handed on",
	} {
		if seen[name] < 50 {
			t.Errorf("too few: %s: %d", name, seen[name])
		}
	}
}

// count tells what the drawn steps came to.
func count(seen map[string]int, s impl.Session, x impl.SesStep) {
	is := func(name string, holds bool) {
		if holds {
			seen[name]++
		}
	}
	if isTake := x.Kind == impl.SesTake; (isTake || x.Kind == impl.SesLose) && x.K >= 0 && x.K < len(s.Way) {
		p := s.Way[x.K]
		isNow := p.Epoch == s.Epoch
		is("taken next", isTake && isNow && p.No == len(s.Handed))
		is("taken again", isTake && isNow && p.No < len(s.Handed))
		is("taken too far ahead", isTake && isNow && p.No > len(s.Handed))
		is("taken of an elder epoch", isTake && !isNow)
		is("taken of an elder epoch, next", isTake && !isNow && p.No == len(s.Handed))
		is("acks full", isTake && isNow && len(s.Acks) == 12)
		is("lost next", !isTake && isNow && p.No == len(s.Handed))
	}
	if x.Kind == impl.SesAck && x.K >= 0 && x.K < len(s.Acks) {
		a := s.Acks[x.K]
		isNow := a.Epoch == s.Epoch
		is("ack of more", isNow && a.Upto > s.Base)
		is("ack of less", isNow && a.Upto < s.Base)
		is("ack of an elder epoch", !isNow)
	}
	is("way full", (x.Kind == impl.SesSend || x.Kind == impl.SesTwice) && len(s.Way) == 12)
	is("items full", x.Kind == impl.SesPush && len(s.Items) == 30)
	is("twice", x.Kind == impl.SesTwice && x.K >= 0 && x.K < len(s.Way))
	is("cut with packets", x.Kind == impl.SesCut && len(s.Way) > 0)
	is("cut with acks", x.Kind == impl.SesCut && len(s.Acks) > 0)
	is("cut, more known", x.Kind == impl.SesCut && s.Base < len(s.Handed))
}

// allSteps tries each step in each session that is come to, as deep as that.
func allSteps(t *testing.T, s impl.Session, w witness, deep int) int {
	w.holdsInTheEnd(t, s)
	if deep == 0 {
		return 1
	}
	l := sesSteps("push item " + strconv.Itoa(len(s.Items)) + "; send 0; send 1; send 2; take 0; take 1; take 2; lose 0; lose 1; twice 0; twice 1; ack 0; ack 1; cut")
	come := 1
	for _, x := range l {
		next, ok := steppedAs(t, "all", s, x)
		if !ok {
			continue
		}
		seer := witness{slices.Clone(w.pushed), w.handed}
		seer.see(t, x, next)
		come += allSteps(t, next, seer, deep-1)
	}
	return come
}

func TestAllShortSessions(t *testing.T) {
	s, _ := impl.NewSession("item 0")
	w := witness{pushed: []string{"item 0"}}
	if come := allSteps(t, s, w, 7); come < 100000 {
		t.Error("too few:", come)
	}
	// Two were handed on, of which none is known, and elder ones are on their way.
	s = session("3 0 2 item,b,c,d 2.2,3.2,1.0 2.2,3.1")
	allSteps(t, s, witness{slices.Clone(s.Items), slices.Clone(s.Handed)}, 3)
}

// Items whose texts are alike are told apart by their places.
func TestItemsAlikeAreEachHandedOnOnce(t *testing.T) {
	r := rand.New(rand.NewSource(156))
	for range 300 {
		l := drawnSteps(r, 200)
		other, did := playedAs(t, "first", l)
		for i := range l {
			if l[i].Kind == impl.SesPush {
				l[i].Text = "same"
			}
		}
		s, told := playedAs(t, "same", l)
		if !slices.Equal(told, did) || len(s.Items) != len(other.Items) || len(s.Handed) != len(other.Handed) || s.Base != other.Base {
			t.Errorf("of texts alike %s, of others %s", shownSession(s), shownSession(other))
		}
		if calm, _ := calmedAs(t, "alike", s); len(calm.Handed) != len(other.Items) {
			t.Errorf("of texts alike %d are handed on in the end, of %d", len(calm.Handed), len(other.Items))
		}
	}
}

// What was sent ahead of a cut hands nothing on behind it, and tells nothing.
func TestEldersOfACutAreOnlyTaken(t *testing.T) {
	for handed := range 5 {
		for no := range 5 {
			for upto := range handed + 1 {
				for elder := 1; elder < 4; elder++ {
					s := session(fmt.Sprintf("4 0 %d %s - -", handed, letters(8)))
					s.Base = max(0, no-3)
					if s.Base > handed {
						continue
					}
					want := ownSession(s)
					s.Way = []impl.Packet{{Epoch: elder, No: no, Text: s.Items[no]}}
					if got, ok := impl.StepSession(s, impl.SesStep{Kind: impl.SesTake}); !sameSession(got, want) || !ok {
						t.Errorf("an elder packet: %s: %s, %v", shownSession(s), shownSession(got), ok)
					}
					s.Way, s.Acks = nil, []impl.Ack{{Epoch: elder, Upto: upto}}
					if got, ok := impl.StepSession(s, impl.SesStep{Kind: impl.SesAck}); !sameSession(got, want) || !ok {
						t.Errorf("an elder ack: %s: %s, %v", shownSession(s), shownSession(got), ok)
					}
				}
			}
		}
	}
}
