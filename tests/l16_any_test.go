package tests

import (
	"slices"
	"strconv"
	"sync"
	"testing"

	"loop.example/g00333/impl"
)

func anyLists() map[string][]int {
	l := map[string][]int{
		"nil": nil, "empty": {}, "0": {0}, "many": from(0, 99), "one more": from(0, 100), "very many": make([]int, 1<<16), "very many, rising": from(0, 1<<16),
		"falling": {2, 1, 0}, "alike": {1, 1}, "with gaps": {0, 2, 4}, "below 0": from(-5, 5),
	}
	for _, n := range anyNumbers() {
		l["just "+strconv.Itoa(n)] = []int{n}
		l["behind one "+strconv.Itoa(n)] = []int{0, n}
	}
	return l
}

func anyQueues() map[string]impl.Queue {
	l := goodQueues()
	for name, q := range wrongQueues() {
		l["wrong: "+name] = q
	}
	of := "3 1 4,6 0,3 1,2,5"
	for _, n := range anyNumbers() {
		name := strconv.Itoa(n)
		l["all are "+name] = impl.Queue{Cap: n, Rule: n, Next: n, Waiting: []int{n}, Handed: []int{n}, Dropped: []int{n}}
		l["cap "+name] = bentQueue(of, func(q *impl.Queue) { q.Cap = n })
		l["rule "+name] = bentQueue(of, func(q *impl.Queue) { q.Rule = n })
		l["next "+name] = bentQueue(of, func(q *impl.Queue) { q.Next = n })
		l["waiting "+name] = bentQueue(of, func(q *impl.Queue) { q.Waiting[1] = n })
		l["handed "+name] = bentQueue(of, func(q *impl.Queue) { q.Handed[0] = n })
		l["dropped "+name] = bentQueue(of, func(q *impl.Queue) { q.Dropped[2] = n })
	}
	for name, list := range anyLists() {
		for _, next := range []int{0, 1, 3, 99, 100} {
			at := name + ", next " + strconv.Itoa(next)
			l[at+", waiting"] = impl.Queue{Cap: 10, Rule: 1, Next: next, Waiting: list}
			l[at+", handed"] = impl.Queue{Cap: 1, Rule: 2, Next: next, Handed: list}
			l[at+", dropped"] = impl.Queue{Cap: 1, Rule: 3, Next: next, Dropped: list}
			l[at+", all"] = impl.Queue{Cap: 10, Rule: 1, Next: next, Waiting: list, Handed: list, Dropped: list}
		}
	}
	return l
}

func anyTurns() map[string][]bool {
	return map[string][]bool{
		"nil": nil, "empty": {}, "one": {true}, "the other": {false}, "both": turns("ooohohhhhoo"),
		"200": slices.Repeat(turns("ooh"), 67)[:200], "201": slices.Repeat(turns("ooh"), 67), "very many": make([]bool, 1<<20),
	}
}

// queueMemory is all of the lists that a queue is made of, and what lies behind them.
type queueMemory struct {
	waiting, handed, dropped []int
}

// behindQueue lays behind each list's length what would make another queue of it, good or not.
func behindQueue(q impl.Queue) (impl.Queue, queueMemory) {
	m := queueMemory{
		waiting: append(slices.Clone(q.Waiting), q.Next, q.Next+1, -1, 0),
		handed:  append(slices.Clone(q.Handed), q.Next, 0, -1),
		dropped: append(slices.Clone(q.Dropped), q.Next, 5, -1),
	}
	q.Waiting, q.Handed, q.Dropped = m.waiting[:len(q.Waiting)], m.handed[:len(q.Handed)], m.dropped[:len(q.Dropped)]
	return q, m
}

func (m queueMemory) copied() queueMemory {
	return queueMemory{slices.Clone(m.waiting), slices.Clone(m.handed), slices.Clone(m.dropped)}
}

func (m queueMemory) isAs(other queueMemory) bool {
	return slices.Equal(m.waiting, other.waiting) && slices.Equal(m.handed, other.handed) && slices.Equal(m.dropped, other.dropped)
}

// A panic in any of these fails the test by itself.
func TestQueuesAnswerAtAnyQueues(t *testing.T) {
	good := 0
	for name, q := range anyQueues() {
		given, memory := behindQueue(q)
		before := memory.copied()
		isGood := wantGoodQueue(q)
		if isGood {
			good++
		}
		if got := impl.GoodQueue(given); got != isGood {
			t.Errorf("%s: GoodQueue(%s) = %v", name, shownQueue(q), got)
		}
		for _, isOffer := range []bool{true, false} {
			got, no, ok := turnedAs(t, name, given, isOffer)
			want, wantNo, wantOk := wantTurn(q, isOffer)
			if !sameQueue(got, want) || no != wantNo || ok != wantOk {
				t.Errorf("%s: of %s, an Offer %v: %s, %d, %v", name, shownQueue(q), isOffer, shownQueue(got), no, ok)
			}
		}
		gapsAs(t, name, given)
		for _, no := range append(anyNumbers(), 0, 1, 50, 99, 100) {
			want, okWant := wantWhere(q, no)
			if place, ok := impl.WhereIs(given, no); place != want || ok != okWant {
				t.Errorf("%s: WhereIs %d in %s = %d, %v; want %d, %v", name, no, shownQueue(q), place, ok, want, okWant)
			}
		}
		if !memory.isAs(before) {
			t.Fatalf("%s: it was written into", name)
		}
	}
	if good < 200 {
		t.Error("too few are good:", good)
	}
}

func TestQueuesAnswerAtAnyCapsRulesAndTurns(t *testing.T) {
	for _, n := range append(anyNumbers(), 1, 2, 3, 10) {
		for _, m := range append(anyNumbers(), 1, 2, 3, 10) {
			want, okWant := impl.Queue{Cap: n, Rule: m}, wantCapAndRule(n, m)
			if !okWant {
				want = impl.Queue{}
			}
			if got, ok := impl.NewQueue(n, m); !sameQueue(got, want) || ok != okWant {
				t.Errorf("NewQueue(%d, %d) = %s, %v", n, m, shownQueue(got), ok)
			}
			playedQueueAs(t, n, m, turns("ooohooohh"))
		}
	}
	for name, l := range anyTurns() {
		memory := append(slices.Clone(l), true, false, true)
		before := slices.Clone(memory)
		for cap := 1; cap <= 10; cap++ {
			for rule := range 5 {
				playedQueueAs(t, cap, rule, memory[:len(l)])
			}
		}
		if !slices.Equal(memory, before) {
			t.Fatalf("%s: they were written into", name)
		}
	}
}

// What lies behind a list's length is no part of it.
func TestQueuesDoNotReadBehindTheLength(t *testing.T) {
	numbers := from(0, 120)
	for next := range 111 {
		waiting := min(next, 10)
		q := impl.Queue{Cap: 10, Rule: impl.DropOldest, Next: next, Handed: numbers[:next-waiting], Waiting: numbers[next-waiting : next]}
		if impl.GoodQueue(q) != (next <= 100) {
			t.Errorf("the first %d of 121: GoodQueue = %v", next, next > 100)
		}
		turnedAs(t, "one behind the other", q, true)
		turnedAs(t, "one behind the other", q, false)
		gapsAs(t, "one behind the other", q)
		// In one memory, the later list ahead.
		q = impl.Queue{Cap: 10, Rule: impl.DropNewest, Next: next, Waiting: numbers[:waiting], Dropped: numbers[waiting:next]}
		turnedAs(t, "one ahead of the other", q, true)
		turnedAs(t, "one ahead of the other", q, false)
		whereAs(t, "one ahead of the other", q)
	}
	if !slices.Equal(numbers, from(0, 120)) {
		t.Error("the numbers were written into:", numbers)
	}
	l := slices.Repeat([]bool{true}, 300)
	for many := range 201 {
		if q, told, ok := impl.PlayQueue(10, impl.DropRefuse, l[:many]); len(told) != many || q.Next != min(many, 100) || !ok {
			t.Errorf("the first %d of 300 times: %s, %v, %v", many, shownQueue(q), told, ok)
		}
	}
}

func listsOfQueue(q impl.Queue) [][]int {
	return [][]int{q.Waiting, q.Handed, q.Dropped}
}

func behindNumbersAreZero(l []int) bool {
	for _, n := range l[len(l):cap(l)] {
		if n != 0 {
			return false
		}
	}
	return true
}

// newQueueMemory asks twice, spoils the first answer list by list, and holds what is left and the second one against it.
func newQueueMemory(t *testing.T, name string, answer func() impl.Queue) {
	t.Helper()
	first, second := answer(), answer()
	want := ownQueue(second)
	for i, l := range listsOfQueue(first) {
		if !behindNumbersAreZero(l) {
			t.Errorf("%s hands out what lies behind: %v", name, l[:cap(l)])
		}
		_ = append(l, 77)
		spoilInts(l)
		for later := i + 1; later < 3; later++ {
			if !slices.Equal(listsOfQueue(first)[later], listsOfQueue(want)[later]) {
				t.Errorf("%s: the lists %d and %d of the answer share memory: %s", name, i, later, shownQueue(first))
			}
		}
	}
	if !sameQueue(second, want) || !sameQueue(answer(), want) {
		t.Errorf("%s: two answers share memory: %s", name, shownQueue(second))
	}
}

func TestQueuesHandOutNewMemory(t *testing.T) {
	for name, q := range goodQueues() {
		given, memory := behindQueue(q)
		before := memory.copied()
		newQueueMemory(t, name+", Offer", func() impl.Queue { got, _, _ := impl.Offer(given); return got })
		newQueueMemory(t, name+", Hand", func() impl.Queue { got, _, _ := impl.Hand(given); return got })
		if !memory.isAs(before) {
			t.Errorf("%s: an answer shares memory with its argument: %v", name, memory)
		}
	}
	for _, rule := range rules() {
		newQueueMemory(t, "NewQueue", func() impl.Queue { got, _ := impl.NewQueue(3, rule); return got })
	}
}

func TestPlaysOfQueuesHandOutNewMemory(t *testing.T) {
	l := turns("ooohoooohhooohoooooh")
	before := slices.Clone(l)
	for many := range len(l) + 1 {
		for _, rule := range rules() {
			newQueueMemory(t, "PlayQueue", func() impl.Queue { q, _, _ := impl.PlayQueue(3, rule, l[:many]); return q })
			q, told, _ := impl.PlayQueue(3, rule, l[:many])
			_, again, _ := impl.PlayQueue(3, rule, l[:many])
			want, wantTold, _ := wantPlayedQueue(3, rule, l[:many])
			if !behindNumbersAreZero(told) {
				t.Errorf("what lies behind is handed out: %v", told[:cap(told)])
			}
			_ = append(told, 77)
			spoilInts(told)
			if !sameQueue(q, want) || !slices.Equal(again, wantTold) {
				t.Errorf("what was told shares memory: %s, %v", shownQueue(q), again)
			}
		}
	}
	if !slices.Equal(l, before) {
		t.Error("the times were written into:", l)
	}
}

func TestQueuesAnswerTheSameFromManySides(t *testing.T) {
	given := queue("3 2 0,4,7 2,5 1,3,6")
	l := turns("ooohooohoohhhoo")
	offered, dropped, _ := wantOffered(given)
	handed, first, _ := wantHandedOn(given)
	played, wantTold, _ := wantPlayedQueue(2, impl.DropOldest, l)
	var joined sync.WaitGroup
	for i := range 16 {
		joined.Go(func() {
			for range 100 {
				q, no, okOffer := impl.Offer(given)
				h, gone, okHand := impl.Hand(given)
				p, told, okPlay := impl.PlayQueue(2, impl.DropOldest, l)
				place, okPlace := impl.WhereIs(given, 5)
				gaps, okGaps := impl.GapsIn(given)
				if !sameQueue(q, offered) || no != dropped || !sameQueue(h, handed) || gone != first || !sameQueue(p, played) || !slices.Equal(told, wantTold) || place != 2 || gaps != 4 {
					t.Errorf("%d: %s, %d, %s, %d, %s, %v, %d, %d", i, shownQueue(q), no, shownQueue(h), gone, shownQueue(p), told, place, gaps)
				}
				fresh, okFresh := impl.NewQueue(3, impl.DropRefuse)
				if !impl.GoodQueue(given) || !impl.GoodQueue(fresh) || !okOffer || !okHand || !okPlay || !okPlace || !okGaps || !okFresh {
					t.Errorf("%d: queues that were good are not", i)
				}
			}
		})
	}
	joined.Wait()
}
