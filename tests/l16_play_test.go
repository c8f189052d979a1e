package tests

import (
	"math"
	"math/rand"
	"slices"
	"strings"
	"testing"

	"loop.example/g00333/impl"
)

func playedQueueAs(t *testing.T, cap, rule int, l []bool) (impl.Queue, []int) {
	t.Helper()
	want, wantTold, wantOk := wantPlayedQueue(cap, rule, l)
	q, told, ok := impl.PlayQueue(cap, rule, l)
	if !sameQueue(q, want) || !slices.Equal(told, wantTold) || ok != wantOk {
		t.Errorf("PlayQueue(%d, %d, %d times) = %s, %v, %v; want %s, %v, %v", cap, rule, len(l), shownQueue(q), told, ok, shownQueue(want), wantTold, wantOk)
	}
	if impl.GoodQueue(q) != ok {
		t.Errorf("PlayQueue(%d, %d, %d times), %v, is good: %v: %s", cap, rule, len(l), ok, !ok, shownQueue(q))
	}
	return q, told
}

func TestPlayQueueByHand(t *testing.T) {
	for _, row := range []struct {
		turns, told, want string
	}{
		{"", "-", "1 1 - - -"},
		{"h", "-2", "1 1 - - -"},
		{"o", "-1", "1 3 0 - -"},
		{"oh", "-1,0", "1 1 - 0 -"},
		{"ho", "-2,-1", "1 1 0 - -"},
		{"ohoh", "-1,0,-1,1", "1 2 - 0,1 -"},
		{"hohhoh", "-2,-1,0,-2,-1,1", "1 3 - 0,1 -"},

		{"ooohhh", "-1,-1,0,1,2,-2", "2 1 - 1,2 0"},
		{"ooohhh", "-1,-1,1,0,2,-2", "2 2 - 0,2 1"},
		{"ooohhh", "-1,-1,2,0,1,-2", "2 3 - 0,1 2"},

		{"ooooo", "-1,0,1,2,3", "1 1 4 - 0..3"},
		{"ooooo", "-1,0,1,2,3", "1 2 4 - 0..3"},
		{"ooooo", "-1,1,2,3,4", "1 3 0 - 1..4"},

		{"ooooooo", "-1,-1,-1,0,1,2,3", "3 1 4,5,6 - 0..3"},
		{"ooooooo", "-1,-1,-1,2,3,4,5", "3 2 0,1,6 - 2..5"},
		{"ooooooo", "-1,-1,-1,3,4,5,6", "3 3 0,1,2 - 3..6"},

		{"ooohooohoo", "-1,-1,0,1,-1,2,3,4,-1,5", "2 1 6,7 1,4 0,2,3,5"},
		{"ooohooohoo", "-1,-1,1,0,-1,3,4,2,-1,6", "2 2 5,7 0,2 1,3,4,6"},
		{"ooohooohoo", "-1,-1,2,0,-1,4,5,1,-1,7", "2 3 3,6 0,1 2,4,5,7"},
	} {
		want := queue(row.want)
		q, told, ok := impl.PlayQueue(want.Cap, want.Rule, turns(row.turns))
		if !sameQueue(q, want) || !slices.Equal(told, numbersOf(row.told)) || !ok {
			t.Errorf("%s: %s, %v, %v; want %s, %s", row.turns, shownQueue(q), told, ok, row.want, row.told)
		}
		playedQueueAs(t, want.Cap, want.Rule, turns(row.turns))
	}
}

func TestPlayQueueOfManyOffers(t *testing.T) {
	for cap := 1; cap <= 10; cap++ {
		for _, many := range []int{0, 1, 9, 10, 11, 99, 100, 101, 150, 200} {
			offered := min(many, 100)
			kept := min(offered, cap)
			for _, rule := range rules() {
				q, told := playedQueueAs(t, cap, rule, slices.Repeat([]bool{true}, many))
				want := impl.Queue{Cap: cap, Rule: rule, Next: offered}
				switch {
				case rule == impl.DropOldest:
					want.Dropped, want.Waiting = from(0, offered-kept-1), from(offered-kept, offered-1)
				case rule == impl.DropNewest && offered > cap:
					want.Waiting, want.Dropped = append(from(0, cap-2), offered-1), from(cap-1, offered-2)
				default:
					want.Waiting, want.Dropped = from(0, kept-1), from(kept, offered-1)
				}
				if !sameQueue(q, want) {
					t.Errorf("%d offers: %s; want %s", many, shownQueue(q), shownQueue(want))
				}
				for i, no := range told {
					if (no == -1) != (i < cap) || (no == -2) != (i >= 100) {
						t.Errorf("%d offers, cap %d, rule %d: the offer %d told %d", many, cap, rule, i, no)
					}
				}
			}
		}
	}
}

func TestPlayQueueOfManyHands(t *testing.T) {
	for _, many := range []int{0, 1, 99, 100, 101, 200} {
		for cap := 1; cap <= 10; cap++ {
			for _, rule := range rules() {
				q, told := playedQueueAs(t, cap, rule, make([]bool, many))
				if !sameQueue(q, impl.Queue{Cap: cap, Rule: rule}) || !slices.Equal(told, slices.Repeat([]int{-2}, many)) {
					t.Errorf("%d hands: %s, %v", many, shownQueue(q), told)
				}
			}
		}
	}
}

func TestPlayQueueOfTooManyTimes(t *testing.T) {
	for _, many := range []int{198, 199, 200, 201, 202, 400, 1 << 16} {
		for _, l := range [][]bool{make([]bool, many), slices.Repeat([]bool{true}, many), slices.Repeat(turns("oh"), many)[:many]} {
			q, told := playedQueueAs(t, 3, impl.DropOldest, l)
			if isRight := many <= 200; (q.Cap == 3) != isRight || len(told) != many && isRight || len(told) > 0 && !isRight {
				t.Errorf("%d times: %s, %v", many, shownQueue(q), told)
			}
		}
	}
	// A hundred that are offered and handed on one by one are the most that can be.
	q, told := playedQueueAs(t, 1, impl.DropRefuse, slices.Repeat(turns("oh"), 100))
	if !sameQueue(q, queue("1 3 - 0..99 -")) || slices.Contains(told, -2) || told[199] != 99 {
		t.Errorf("a hundred of both: %s, %v", shownQueue(q), told)
	}
}

func TestPlayQueueOfWrongCapsAndRules(t *testing.T) {
	for _, cap := range append(from(-2, 13), math.MinInt, math.MaxInt) {
		for _, rule := range append(from(-2, 6), math.MinInt, math.MaxInt) {
			for _, text := range []string{"", "o", "h", "ooohh", strings.Repeat("o", 201)} {
				q, told, ok := impl.PlayQueue(cap, rule, turns(text))
				isRight := cap >= 1 && cap <= 10 && rule >= 1 && rule <= 3 && len(text) < 201
				if ok != isRight || !ok && (!sameQueue(q, impl.Queue{}) || len(told) > 0) {
					t.Errorf("PlayQueue(%d, %d, %.10s) = %s, %v, %v", cap, rule, text, shownQueue(q), told, ok)
				}
				playedQueueAs(t, cap, rule, turns(text))
			}
		}
	}
}

// What told false changes nothing: without it all is the same.
func TestTurnsThatToldFalseChangeNothing(t *testing.T) {
	r := rand.New(rand.NewSource(162))
	refused := 0
	for range 500 {
		cap, rule, l := 1+r.Intn(10), 1+r.Intn(3), drawnTurns(r, r.Intn(201))
		q, told := playedQueueAs(t, cap, rule, l)
		var left []bool
		var leftTold []int
		for i, isOffer := range l {
			if told[i] != -2 {
				left, leftTold = append(left, isOffer), append(leftTold, told[i])
			}
		}
		refused += len(l) - len(left)
		again, toldAgain := playedQueueAs(t, cap, rule, left)
		if !sameQueue(q, again) || !slices.Equal(toldAgain, leftTold) {
			t.Errorf("%s; without what told false %s, %v", shownQueue(q), shownQueue(again), toldAgain)
		}
	}
	if refused < 1000 {
		t.Error("too few told false:", refused)
	}
}

func TestPlayQueueIsOfferAndHandEach(t *testing.T) {
	r := rand.New(rand.NewSource(163))
	for range 12 {
		cap, rule, l := 1+r.Intn(10), 1+r.Intn(3), drawnTurns(r, 200)
		q, _ := impl.NewQueue(cap, rule)
		var each []int
		for i, isOffer := range l {
			played, told := playedQueueAs(t, cap, rule, l[:i])
			if !sameQueue(played, q) || !slices.Equal(told, each) {
				t.Fatalf("the first %d times: %s, %v; each: %s, %v", i, shownQueue(played), told, shownQueue(q), each)
			}
			next, no, ok := turnedAs(t, "each", q, isOffer)
			if !ok {
				next, no = q, -2
			}
			q, each = next, append(each, no)
		}
	}
}

// queueWitness knows of each number that was offered where it is, by what was told of it, whatever the queue itself tells.
type queueWitness struct {
	cap, rule int
	places    []int
	handed    []int
}

func (w *queueWitness) waiting() []int {
	return w.at(1)
}

func (w *queueWitness) at(place int) []int {
	var l []int
	for no, p := range w.places {
		if p == place {
			l = append(l, no)
		}
	}
	return l
}

// seeOffer: what is dropped is dropped as the rule tells, and only where there is no room.
func (w *queueWitness) seeOffer(t *testing.T, told int, ok bool) {
	t.Helper()
	waiting := w.waiting()
	if ok == (len(w.places) == 100) {
		t.Errorf("of %d offered: Offer told %v", len(w.places), ok)
	}
	if !ok {
		return
	}
	if hasRoom := len(waiting) < w.cap; hasRoom != (told == -1) {
		t.Errorf("%v wait, cap %d: Offer told %d", waiting, w.cap, told)
	}
	w.places = append(w.places, 1)
	if told == -1 {
		return
	}
	isRight := false
	switch w.rule {
	case impl.DropOldest:
		isRight = told == slices.Min(waiting)
	case impl.DropNewest:
		isRight = told == slices.Max(waiting)
	case impl.DropRefuse:
		isRight = told == len(w.places)-1
	}
	if !isRight || w.places[told] != 1 {
		t.Fatalf("%v wait, rule %d: Offer told %d", waiting, w.rule, told)
	}
	w.places[told] = 3
}

// seeHand: the one that waits longest goes first, so that what is handed on rises.
func (w *queueWitness) seeHand(t *testing.T, told int, ok bool) {
	t.Helper()
	waiting := w.waiting()
	if ok != (len(waiting) > 0) || ok && told != slices.Min(waiting) {
		t.Fatalf("%v wait: Hand told %d, %v", waiting, told, ok)
	}
	if !ok {
		return
	}
	if len(w.handed) > 0 && told <= w.handed[len(w.handed)-1] {
		t.Errorf("%d was handed on behind %v", told, w.handed)
	}
	w.handed = append(w.handed, told)
	w.places[told] = 2
}

// holds: each number that was offered is in just one place, and it is the one that was told of it.
func (w *queueWitness) holds(t *testing.T, q impl.Queue) {
	t.Helper()
	if q.Next != len(w.places) || !slices.Equal(q.Handed, w.handed) {
		t.Errorf("%d were offered, %v handed on: %s", len(w.places), w.handed, shownQueue(q))
	}
	counted := map[int]int{}
	for i, l := range [][]int{q.Waiting, q.Handed, q.Dropped} {
		if !slices.Equal(l, w.at(i+1)) {
			t.Errorf("%v are in list %d of %s", w.at(i+1), i, shownQueue(q))
		}
		for _, no := range l {
			counted[no]++
		}
	}
	for no := range w.places {
		if counted[no] != 1 {
			t.Errorf("%d is told %d times: %s", no, counted[no], shownQueue(q))
		}
	}
	if len(counted) != len(w.places) {
		t.Errorf("%d were offered: %s", len(w.places), shownQueue(q))
	}
}

// holdsEach asks the queue itself for each number, and for how many were passed over.
func (w *queueWitness) holdsEach(t *testing.T, q impl.Queue) {
	t.Helper()
	for no, want := range w.places {
		if place, ok := impl.WhereIs(q, no); place != want || !ok {
			t.Errorf("WhereIs %d in %s = %d, %v; want %d", no, shownQueue(q), place, ok, want)
		}
	}
	passed := 0
	if len(w.handed) > 0 {
		passed = slices.Max(w.handed) + 1 - len(w.handed)
	}
	if gaps, ok := impl.GapsIn(q); gaps != passed || !ok {
		t.Errorf("GapsIn(%s) = %d, %v; want %d", shownQueue(q), gaps, ok, passed)
	}
}

// follow plays by Offer and Hand, with the witness at each.
func (w *queueWitness) follow(t *testing.T, l []bool, each func(q impl.Queue)) impl.Queue {
	t.Helper()
	q, _ := impl.NewQueue(w.cap, w.rule)
	for _, isOffer := range l {
		turn, see := impl.Hand, w.seeHand
		if isOffer {
			turn, see = impl.Offer, w.seeOffer
		}
		next, told, ok := turn(q)
		if see(t, told, ok); ok {
			q = next
		}
		w.holds(t, q)
		each(q)
	}
	return q
}

// Promise 16.
func TestEachThatWasOfferedIsInOnePlaceAndDroppedByTheRule(t *testing.T) {
	r := rand.New(rand.NewSource(164))
	dropped, handed, all := map[int]int{}, 0, 0
	for i := range 600 {
		w := queueWitness{cap: 1 + r.Intn(10), rule: 1 + i%3}
		l := drawnTurns(r, 200)
		q := w.follow(t, l, func(impl.Queue) {})
		w.holdsEach(t, q)
		played, _ := playedQueueAs(t, w.cap, w.rule, l)
		w.holds(t, played)
		dropped[w.rule] += len(q.Dropped)
		handed += len(q.Handed)
		if q.Next == 100 {
			all++
		}
	}
	if dropped[1] < 2000 || dropped[2] < 2000 || dropped[3] < 2000 || handed < 5000 || all < 100 {
		t.Error("too few:", dropped, handed, all)
	}
}

func TestAllShortPlaysOfQueues(t *testing.T) {
	for _, text := range textsOver("oh", 0, 9) {
		for cap := 1; cap < 5; cap++ {
			for _, rule := range rules() {
				w := queueWitness{cap: cap, rule: rule}
				q := w.follow(t, turns(text), func(impl.Queue) {})
				w.holdsEach(t, q)
				played, _ := playedQueueAs(t, cap, rule, turns(text))
				w.holds(t, played)
			}
		}
	}
}

// What was handed on or dropped stays so.
func TestNumbersThatWentStayWhereTheyWent(t *testing.T) {
	r := rand.New(rand.NewSource(165))
	for i := range 30 {
		w := queueWitness{cap: 1 + r.Intn(10), rule: 1 + i%3}
		before := map[int]int{}
		w.follow(t, drawnTurns(r, 200), func(q impl.Queue) {
			for no := range q.Next {
				place, ok := impl.WhereIs(q, no)
				if !ok || before[no] > 1 && place != before[no] {
					t.Errorf("WhereIs %d in %s = %d, %v; it was %d", no, shownQueue(q), place, ok, before[no])
				}
				before[no] = place
			}
		})
	}
}

// Where Hand comes often enough none is dropped, by whatever rule.
func TestNoneIsDroppedWhereThereIsRoom(t *testing.T) {
	for cap := 1; cap <= 10; cap++ {
		for _, rule := range rules() {
			l := turns(strings.Repeat(strings.Repeat("o", cap)+strings.Repeat("h", cap), 200/(2*cap)))
			q, told := playedQueueAs(t, cap, rule, l)
			offered := len(l) / 2
			if !sameQueue(q, impl.Queue{Cap: cap, Rule: rule, Next: offered, Handed: from(0, offered-1)}) || slices.Contains(told, -2) {
				t.Errorf("cap %d, rule %d: %s, %v", cap, rule, shownQueue(q), told)
			}
		}
	}
}
