package tests

import (
	"fmt"
	"math"
	"math/rand"
	"slices"
	"strconv"
	"strings"
	"testing"

	"loop.example/g00333/impl"
)

func TestLimitsAndRulesOfQueues(t *testing.T) {
	if impl.MaxCap != 10 || impl.MaxOffers != 100 {
		t.Error(impl.MaxCap, impl.MaxOffers)
	}
	if impl.DropOldest != 1 || impl.DropNewest != 2 || impl.DropRefuse != 3 {
		t.Error(impl.DropOldest, impl.DropNewest, impl.DropRefuse)
	}
}

func TestNewQueue(t *testing.T) {
	caps := append(from(-3, 14), 100, 1000, math.MinInt, math.MaxInt)
	for _, cap := range caps {
		for _, rule := range append(from(-3, 9), math.MinInt, math.MaxInt) {
			want, isGood := impl.Queue{}, cap >= 1 && cap <= 10 && rule >= 1 && rule <= 3
			if isGood {
				want = impl.Queue{Cap: cap, Rule: rule}
			}
			q, ok := impl.NewQueue(cap, rule)
			if !sameQueue(q, want) || ok != isGood || impl.GoodQueue(q) != isGood {
				t.Errorf("NewQueue(%d, %d) = %s, %v; it is good: %v", cap, rule, shownQueue(q), ok, impl.GoodQueue(q))
			}
		}
	}
}

func TestGoodQueuesAndOthers(t *testing.T) {
	for name, q := range goodQueues() {
		if !impl.GoodQueue(q) || !wantGoodQueue(q) {
			t.Errorf("%s: GoodQueue(%s) = %v, the reference %v", name, shownQueue(q), impl.GoodQueue(q), wantGoodQueue(q))
		}
	}
	for name, q := range wrongQueues() {
		if impl.GoodQueue(q) || wantGoodQueue(q) {
			t.Errorf("%s: GoodQueue(%s) = %v, the reference %v", name, shownQueue(q), impl.GoodQueue(q), wantGoodQueue(q))
		}
	}
}

func TestGoodQueueByItsEdges(t *testing.T) {
	isGood := func(q impl.Queue, want bool, about string, numbers ...int) {
		t.Helper()
		if impl.GoodQueue(q) != want {
			t.Errorf("%s %v: %s is %v", about, numbers, shownQueue(q), !want)
		}
	}
	for _, n := range append(from(-2, 13), math.MinInt, math.MaxInt) {
		isGood(impl.Queue{Cap: n, Rule: 1}, n >= 1 && n <= 10, "a cap", n)
		isGood(impl.Queue{Cap: 1, Rule: n}, n >= 1 && n <= 3, "a rule", n)
		isGood(impl.Queue{Cap: 1, Rule: 1, Next: n}, n == 0, "a next of none", n)
	}
	for many := range 110 {
		for _, next := range []int{-1, 0, many - 1, many, many + 1, 99, 100, 101} {
			want := next == many && many <= 100
			isGood(impl.Queue{Cap: 1, Rule: 1, Next: next, Handed: from(0, many-1)}, want, "handed on, of", many, next)
			isGood(impl.Queue{Cap: 1, Rule: 2, Next: next, Dropped: from(0, many-1)}, want, "dropped, of", many, next)
			isGood(impl.Queue{Cap: 10, Rule: 3, Next: next, Waiting: from(0, many-1)}, want && many <= 10, "waiting, of", many, next)
		}
	}
	for cap := 1; cap <= 10; cap++ {
		for many := range 14 {
			isGood(impl.Queue{Cap: cap, Rule: 1, Next: many, Waiting: from(0, many-1)}, many <= cap, "of a cap they wait", cap, many)
			isGood(impl.Queue{Cap: cap, Rule: 2, Next: many + 2, Waiting: from(1, many), Handed: []int{0}, Dropped: []int{many + 1}}, many <= cap, "of a cap they wait between", cap, many)
		}
	}
}

// One wrong number is enough, wherever it stands.
func TestGoodQueueOfEachNumber(t *testing.T) {
	for _, text := range []string{"3 1 4,6 0,3 1,2,5", "10 2 0..9 10..54 55..99", "1 3 0 1 2"} {
		lists := []func(q impl.Queue) []int{
			func(q impl.Queue) []int { return q.Waiting },
			func(q impl.Queue) []int { return q.Handed },
			func(q impl.Queue) []int { return q.Dropped },
		}
		for which, of := range lists {
			for i, right := range of(queue(text)) {
				for _, other := range append(from(-2, 103), math.MinInt, math.MaxInt) {
					q := queue(text)
					of(q)[i] = other
					if impl.GoodQueue(q) != (other == right) || wantGoodQueue(q) != (other == right) {
						t.Errorf("%s: list %d, place %d is %d: GoodQueue = %v", text, which, i, other, impl.GoodQueue(q))
					}
				}
			}
		}
	}
}

// smallLists is all lists of at most so many numbers.
func smallLists(most int, numbers ...int) [][]int {
	all, last := [][]int{nil}, [][]int{nil}
	for range most {
		var longer [][]int
		for _, l := range last {
			for _, no := range numbers {
				longer = append(longer, append(slices.Clip(l), no))
			}
		}
		all, last = append(all, longer...), longer
	}
	return all
}

func TestGoodQueueOfAllSmallLists(t *testing.T) {
	good := 0
	lists := smallLists(2, -1, 0, 1, 2, 3)
	for _, waiting := range lists {
		for _, handed := range lists {
			for _, dropped := range lists {
				for next := -1; next < 5; next++ {
					q := impl.Queue{Cap: 1 + (next+1)%2, Rule: 1, Next: next, Waiting: waiting, Handed: handed, Dropped: dropped}
					want := wantGoodQueue(q)
					if want {
						good++
					}
					if impl.GoodQueue(q) != want {
						t.Errorf("GoodQueue(%s) = %v", shownQueue(q), !want)
					}
				}
			}
		}
	}
	if good < 50 {
		t.Error("too few are good:", good)
	}
}

// turnedAs holds an Offer or Hand against the reference.
func turnedAs(t *testing.T, name string, q impl.Queue, isOffer bool) (impl.Queue, int, bool) {
	t.Helper()
	want, wantNo, wantOk := wantTurn(q, isOffer)
	turn := impl.Hand
	if isOffer {
		turn = impl.Offer
	}
	got, no, ok := turn(q)
	if !sameQueue(got, want) || no != wantNo || ok != wantOk {
		t.Errorf("%s: of %s, an Offer %v: %s, %d, %v; want %s, %d, %v", name, shownQueue(q), isOffer, shownQueue(got), no, ok, shownQueue(want), wantNo, wantOk)
	}
	if impl.GoodQueue(got) != ok {
		t.Errorf("%s: of %s, an Offer %v: it told %v, %s is good: %v", name, shownQueue(q), isOffer, ok, shownQueue(got), !ok)
	}
	return got, no, ok
}

// turnRow is a queue, the number that an Offer or Hand tells, and the queue that is left; none where it tells false.
type turnRow struct {
	given string
	told  int
	want  string
}

func turnRows(t *testing.T, isOffer bool, rows []turnRow) {
	t.Helper()
	turn := impl.Hand
	if isOffer {
		turn = impl.Offer
	}
	for _, row := range rows {
		var want impl.Queue
		if row.want != "" {
			want = queue(row.want)
		}
		given := queue(row.given)
		got, told, ok := turn(given)
		if !sameQueue(got, want) || told != row.told || ok != (row.want != "") {
			t.Errorf("%s: %s, %d, %v; want %s, %d", row.given, shownQueue(got), told, ok, row.want, row.told)
		}
		if !sameQueue(given, queue(row.given)) {
			t.Errorf("%s: it was written into: %s", row.given, shownQueue(given))
		}
		turnedAs(t, row.given, given, isOffer)
	}
}

func TestOfferWithRoomByHand(t *testing.T) {
	turnRows(t, true, []turnRow{
		{"1 1 - - -", -1, "1 1 0 - -"},
		{"1 2 - - -", -1, "1 2 0 - -"},
		{"1 3 - - -", -1, "1 3 0 - -"},
		{"2 1 0 - -", -1, "2 1 0,1 - -"},
		{"2 2 0 - -", -1, "2 2 0,1 - -"},
		{"2 3 0 - -", -1, "2 3 0,1 - -"},
		{"3 1 0,2 1 -", -1, "3 1 0,2,3 1 -"},
		{"3 2 2 0,3 1,4", -1, "3 2 2,5 0,3 1,4"},
		{"3 3 - 0,1 2,3", -1, "3 3 4 0,1 2,3"},
		{"1 1 - 0 -", -1, "1 1 1 0 -"},
		{"1 3 - - 0", -1, "1 3 1 - 0"},
		{"10 1 0..8 - -", -1, "10 1 0..9 - -"},
		{"10 2 1..9 0 -", -1, "10 2 1..10 0 -"},
		{"10 3 0..8 - 9..98", -1, "10 3 0..8,99 - 9..98"},
		{"1 1 - 0..98 -", -1, "1 1 99 0..98 -"},
	})
}

func TestOfferWithoutRoomByHand(t *testing.T) {
	turnRows(t, true, []turnRow{
		// The oldest one.
		{"1 1 0 - -", 0, "1 1 1 - 0"},
		{"2 1 0,1 - -", 0, "2 1 1,2 - 0"},
		{"2 1 1,2 0 -", 1, "2 1 2,3 0 1"},
		{"2 1 1,2 - 0", 1, "2 1 2,3 - 0,1"},
		{"3 1 4,6,7 0,3 1,2,5", 4, "3 1 6,7,8 0,3 1,2,4,5"},
		{"3 1 0,1,2 3,4 5,6", 0, "3 1 1,2,7 3,4 0,5,6"},
		{"2 1 3,5 0,6 1,2,4,7", 3, "2 1 5,8 0,6 1..4,7"},
		{"10 1 0..9 - -", 0, "10 1 1..10 - 0"},
		{"10 1 2..11 1 0", 2, "10 1 3..12 1 0,2"},
		{"1 1 98 0..97 -", 98, "1 1 99 0..97 98"},
		{"1 1 0 1..98 -", 0, "1 1 99 1..98 0"},
		{"10 1 89..98 0..88 -", 89, "10 1 90..99 0..88 89"},
		// The newest one.
		{"1 2 0 - -", 0, "1 2 1 - 0"},
		{"2 2 0,1 - -", 1, "2 2 0,2 - 1"},
		{"2 2 1,2 0 -", 2, "2 2 1,3 0 2"},
		{"2 2 0,2 - 1", 2, "2 2 0,3 - 1,2"},
		{"3 2 4,6,7 0,3 1,2,5", 7, "3 2 4,6,8 0,3 1,2,5,7"},
		{"3 2 0,1,2 3,4 5,6", 2, "3 2 0,1,7 3,4 2,5,6"},
		{"2 2 3,5 0,6 1,2,4,7", 5, "2 2 3,8 0,6 1,2,4,5,7"},
		{"10 2 0..9 - -", 9, "10 2 0..8,10 - 9"},
		{"10 2 2..11 1 0", 11, "10 2 2..10,12 1 0,11"},
		{"1 2 98 0..97 -", 98, "1 2 99 0..97 98"},
		{"10 2 0..9 10..98 -", 9, "10 2 0..8,99 10..98 9"},
		// The one that is offered.
		{"1 3 0 - -", 1, "1 3 0 - 1"},
		{"2 3 0,1 - -", 2, "2 3 0,1 - 2"},
		{"2 3 1,2 0 -", 3, "2 3 1,2 0 3"},
		{"2 3 0,1 - 2", 3, "2 3 0,1 - 2,3"},
		{"3 3 4,6,7 0,3 1,2,5", 8, "3 3 4,6,7 0,3 1,2,5,8"},
		{"3 3 0,1,2 3,4 5,6", 7, "3 3 0,1,2 3,4 5,6,7"},
		{"10 3 0..9 - -", 10, "10 3 0..9 - 10"},
		{"1 3 98 0..97 -", 99, "1 3 98 0..97 99"},
		{"10 3 0..9 - 10..98", 99, "10 3 0..9 - 10..99"},
	})
}

func TestOfferOfAHundred(t *testing.T) {
	turnRows(t, true, []turnRow{
		{"1 1 99 0..98 -", 0, ""},
		{"1 2 99 - 0..98", 0, ""},
		{"1 3 0 - 1..99", 0, ""},
		{"1 1 - 0..99 -", 0, ""},
		{"10 3 - - 0..99", 0, ""},
		{"10 1 90..99 0..44 45..89", 0, ""},
		{"10 2 0..8 50..99 9..49", 0, ""},
	})
}

func TestHandByHand(t *testing.T) {
	turnRows(t, false, []turnRow{
		{"1 1 - - -", 0, ""},
		{"1 1 - 0 -", 0, ""},
		{"1 2 - - 0", 0, ""},
		{"10 3 - 0..49 50..99", 0, ""},
		{"1 1 0 - -", 0, "1 1 - 0 -"},
		{"1 2 0 - -", 0, "1 2 - 0 -"},
		{"1 3 0 - -", 0, "1 3 - 0 -"},
		{"3 1 1 0 -", 1, "3 1 - 0,1 -"},
		{"3 1 1 - 0", 1, "3 1 - 1 0"},
		{"3 1 0,1 - -", 0, "3 1 1 0 -"},
		{"3 2 0,1 - -", 0, "3 2 1 0 -"},
		{"3 3 0,1 - -", 0, "3 3 1 0 -"},
		{"3 1 4,6,7 0,3 1,2,5", 4, "3 1 6,7 0,3,4 1,2,5"},
		{"3 2 0,1,2 3,4 5,6", 0, "3 2 1,2 0,3,4 5,6"},
		{"2 3 3,5 0,6 1,2,4,7", 3, "2 3 5 0,3,6 1,2,4,7"},
		{"10 1 0..9 - -", 0, "10 1 1..9 0 -"},
		{"10 1 90..99 0..44 45..89", 90, "10 1 91..99 0..44,90 45..89"},
		{"1 2 99 - 0..98", 99, "1 2 - 99 0..98"},
		{"1 2 0 1..99 -", 0, "1 2 - 0..99 -"},
	})
}

func TestTurnsOfAllSmallQueues(t *testing.T) {
	for _, q := range smallQueues(6) {
		if !impl.GoodQueue(q) {
			t.Errorf("%s is not good", shownQueue(q))
		}
		turnedAs(t, "small", q, true)
		turnedAs(t, "small", q, false)
	}
}

func TestTurnsOfQueues(t *testing.T) {
	for name, q := range goodQueues() {
		turnedAs(t, name, q, true)
		turnedAs(t, name, q, false)
	}
	for name, q := range wrongQueues() {
		for _, isOffer := range []bool{true, false} {
			if got, no, ok := turnedAs(t, name, q, isOffer); !sameQueue(got, impl.Queue{}) || no != 0 || ok {
				t.Errorf("%s, an Offer %v: %s, %d, %v", name, isOffer, shownQueue(got), no, ok)
			}
		}
	}
	r := rand.New(rand.NewSource(160))
	for i := range 5000 {
		q := drawnQueue(r)
		turnedAs(t, strconv.Itoa(i), q, true)
		turnedAs(t, strconv.Itoa(i), q, false)
	}
}

func TestWhereIsByHand(t *testing.T) {
	q := queue("3 1 4,6 0,3 1,2,5")
	for no, want := range []int{2, 3, 3, 2, 1, 3, 1} {
		if place, ok := impl.WhereIs(q, no); place != want || !ok {
			t.Errorf("WhereIs %d = %d, %v; want %d", no, place, ok, want)
		}
	}
	for _, no := range []int{-1, -2, 7, 8, 99, 100, 101, math.MinInt, math.MaxInt} {
		if place, ok := impl.WhereIs(q, no); place != 0 || ok {
			t.Errorf("WhereIs %d = %d, %v", no, place, ok)
		}
	}
	for _, row := range []struct {
		given     string
		no, place int
	}{
		{"1 1 - - -", 0, 0}, {"1 1 - - -", -1, 0}, {"1 1 - - -", 1, 0},
		{"1 1 0 - -", 0, 1}, {"1 2 - 0 -", 0, 2}, {"1 3 - - 0", 0, 3},
		{"1 1 0 - -", 1, 0}, {"1 2 - 0 -", 1, 0}, {"1 3 - - 0", 1, 0}, {"1 1 0 - -", -1, 0},
		{"10 3 90..99 0..44 45..89", 99, 1}, {"10 3 90..99 0..44 45..89", 90, 1}, {"10 3 90..99 0..44 45..89", 0, 2},
		{"10 3 90..99 0..44 45..89", 44, 2}, {"10 3 90..99 0..44 45..89", 45, 3}, {"10 3 90..99 0..44 45..89", 89, 3},
		{"10 3 90..99 0..44 45..89", 100, 0}, {"10 3 90..99 0..44 45..89", -1, 0},
	} {
		if place, ok := impl.WhereIs(queue(row.given), row.no); place != row.place || ok != (row.place != 0) {
			t.Errorf("%s: WhereIs %d = %d, %v; want %d", row.given, row.no, place, ok, row.place)
		}
	}
}

// whereAs holds where each number is against the reference, and beside it those that are none.
func whereAs(t *testing.T, name string, q impl.Queue) {
	t.Helper()
	for _, no := range append(from(-2, min(max(q.Next, 0), 101)+2), 99, 100, 101, math.MinInt, math.MaxInt) {
		want, okWant := wantWhere(q, no)
		if place, ok := impl.WhereIs(q, no); place != want || ok != okWant {
			t.Errorf("%s: WhereIs %d in %s = %d, %v; want %d, %v", name, no, shownQueue(q), place, ok, want, okWant)
		}
	}
}

func gapsAs(t *testing.T, name string, q impl.Queue) {
	t.Helper()
	want, okWant := wantGaps(q)
	if gaps, ok := impl.GapsIn(q); gaps != want || ok != okWant {
		t.Errorf("%s: GapsIn(%s) = %d, %v; want %d, %v", name, shownQueue(q), gaps, ok, want, okWant)
	}
}

func TestGapsInByHand(t *testing.T) {
	for _, row := range []struct {
		given string
		gaps  int
	}{
		{"1 1 - - -", 0},
		{"2 1 0,1 - -", 0},
		{"2 1 - - 0,1", 0},
		{"2 1 1 - 0,2", 0},
		{"1 1 - 0 -", 0},
		{"1 1 - 0..99 -", 0},
		{"3 2 3,5 0,1,2 4", 0},
		{"3 2 - 1 0", 1},
		{"3 2 0 1 -", 1},
		{"3 2 0 1 2,3", 1},
		{"3 2 0 2 1", 2},
		{"3 2 0,4 2,3 1", 2},
		{"3 2 0,4 2,5 1,3", 4},
		{"3 2 7,8 2,5 0,1,3,4,6", 4},
		{"3 1 4,6 0,3 1,2,5", 2},
		{"3 1 4,5 0,6 1,2,3", 5},
		{"1 3 - 99 0..98", 99},
		{"1 3 0 99 1..98", 99},
		{"1 3 99 98 0..97", 98},
		{"1 3 - 0 1..99", 0},
		{"10 1 90..99 0..44 45..89", 0},
		{"10 1 0..9 50..99 10..49", 50},
		{"10 1 0..9 10..98 99", 10},
	} {
		if gaps, ok := impl.GapsIn(queue(row.given)); gaps != row.gaps || !ok {
			t.Errorf("%s: GapsIn = %d, %v; want %d", row.given, gaps, ok, row.gaps)
		}
		gapsAs(t, row.given, queue(row.given))
	}
}

func TestPlacesAndGapsOfQueues(t *testing.T) {
	for name, q := range goodQueues() {
		whereAs(t, name, q)
		gapsAs(t, name, q)
	}
	for name, q := range wrongQueues() {
		whereAs(t, name, q)
		if gaps, ok := impl.GapsIn(q); gaps != 0 || ok {
			t.Errorf("%s: GapsIn(%s) = %d, %v", name, shownQueue(q), gaps, ok)
		}
		for _, no := range append(from(-1, 10), 99, 100) {
			if place, ok := impl.WhereIs(q, no); place != 0 || ok {
				t.Errorf("%s: WhereIs %d in %s = %d, %v", name, no, shownQueue(q), place, ok)
			}
		}
	}
	for i, places := range textsOver("whd", 0, 6) {
		q := queueOf(6, 1+i%3, places)
		whereAs(t, places, q)
		gapsAs(t, places, q)
	}
	r := rand.New(rand.NewSource(161))
	for i := range 200 {
		q := drawnQueue(r)
		whereAs(t, strconv.Itoa(i), q)
		gapsAs(t, strconv.Itoa(i), q)
	}
}

// Neither Cap nor Rule has a say in where a number is and in how many gaps there are.
func TestPlacesAndGapsHangOnTheNumbersAlone(t *testing.T) {
	for _, places := range []string{"", "w", "whd", "dhwhdwhd", "hhdwdhw" + strings.Repeat("hd", 40)} {
		want, _ := impl.GapsIn(queueOf(10, 1, places))
		for cap := max(1, strings.Count(places, "w")); cap <= 10; cap++ {
			for _, rule := range rules() {
				q := queueOf(cap, rule, places)
				if gaps, ok := impl.GapsIn(q); gaps != want || !ok {
					t.Errorf("%s: GapsIn = %d, %v; want %d", shownQueue(q), gaps, ok, want)
				}
				for no, letter := range places {
					if place, ok := impl.WhereIs(q, no); fmt.Sprint(place, ok) != fmt.Sprint(1+strings.IndexRune("whd", letter), true) {
						t.Errorf("%s: WhereIs %d = %d, %v", shownQueue(q), no, place, ok)
					}
				}
			}
		}
	}
}
