package tests

import (
	"fmt"
	"math"
	"math/rand"
	"slices"
	"strconv"
	"strings"

	"loop.example/g00333/impl"
)

// queue is made of a text of five words: Cap, Rule, Waiting, Handed and Dropped (`-` is no list); Next is how many numbers
// these are.
func queue(text string) impl.Queue {
	words := strings.Fields(text)
	q := impl.Queue{
		Cap: decimal(words[0]), Rule: decimal(words[1]),
		Waiting: numbersOf(words[2]), Handed: numbersOf(words[3]), Dropped: numbersOf(words[4]),
	}
	q.Next = len(q.Waiting) + len(q.Handed) + len(q.Dropped)
	return q
}

// numbersOf has single numbers and stretches of them, with `..` between the first and the last one.
func numbersOf(word string) []int {
	var l []int
	for _, part := range listOf(word) {
		first, last, isStretch := strings.Cut(part, "..")
		if !isStretch {
			last = first
		}
		l = append(l, from(decimal(first), decimal(last))...)
	}
	return l
}

// from is the numbers from one up to another one.
func from(first, last int) []int {
	var l []int
	for no := first; no <= last; no++ {
		l = append(l, no)
	}
	return l
}

// turns is made of a letter each: o is an Offer, h is Hand.
func turns(text string) []bool {
	var l []bool
	for _, letter := range text {
		l = append(l, letter == 'o')
	}
	return l
}

func sameQueue(a, b impl.Queue) bool {
	return a.Cap == b.Cap && a.Rule == b.Rule && a.Next == b.Next &&
		slices.Equal(a.Waiting, b.Waiting) && slices.Equal(a.Handed, b.Handed) && slices.Equal(a.Dropped, b.Dropped)
}

// shownQueue is a queue as a failed test tells it, cut off where it is very long.
func shownQueue(q impl.Queue) string {
	cut := func(l []int) []int { return l[:min(len(l), 110)] }
	return fmt.Sprintf("{Cap %d Rule %d Next %d Waiting %v Handed %v Dropped %v}", q.Cap, q.Rule, q.Next, cut(q.Waiting), cut(q.Handed), cut(q.Dropped))
}

func ownQueue(q impl.Queue) impl.Queue {
	q.Waiting, q.Handed, q.Dropped = slices.Clone(q.Waiting), slices.Clone(q.Handed), slices.Clone(q.Dropped)
	return q
}

// bentQueue is another queue than the one that the text tells.
func bentQueue(text string, bend func(q *impl.Queue)) impl.Queue {
	q := queue(text)
	bend(&q)
	return q
}

func wantCapAndRule(cap, rule int) bool {
	return slices.Contains([]int{1, 2, 3, 4, 5, 6, 7, 8, 9, 10}, cap) && slices.Contains([]int{1, 2, 3}, rule)
}

// wantGoodQueue counts how often each number is told.
func wantGoodQueue(q impl.Queue) bool {
	many := len(q.Waiting) + len(q.Handed) + len(q.Dropped)
	if !wantCapAndRule(q.Cap, q.Rule) || many != q.Next || many > 100 || len(q.Waiting) > q.Cap {
		return false
	}
	counted := map[int]int{}
	for _, l := range [][]int{q.Waiting, q.Handed, q.Dropped} {
		if !slices.IsSorted(l) {
			return false
		}
		for _, no := range l {
			counted[no]++
		}
	}
	for no := range q.Next {
		if counted[no] != 1 {
			return false
		}
	}
	return true
}

// wantTurn does to a queue's lists what an Offer or Hand does.
func wantTurn(q impl.Queue, isOffer bool) (impl.Queue, int, bool) {
	if isOffer {
		return wantOffered(q)
	}
	return wantHandedOn(q)
}

func wantOffered(q impl.Queue) (impl.Queue, int, bool) {
	if !wantGoodQueue(q) || q.Next > 99 {
		return impl.Queue{}, 0, false
	}
	q = ownQueue(q)
	dropped := -1
	if len(q.Waiting) == q.Cap {
		dropped = []int{q.Waiting[0], q.Waiting[q.Cap-1], q.Next}[q.Rule-1]
	}
	q.Waiting = append(q.Waiting, q.Next)
	if dropped != -1 {
		q.Waiting = slices.DeleteFunc(q.Waiting, func(no int) bool { return no == dropped })
		q.Dropped = slices.Sorted(slices.Values(append(q.Dropped, dropped)))
	}
	q.Next++
	return q, dropped, true
}

func wantHandedOn(q impl.Queue) (impl.Queue, int, bool) {
	if !wantGoodQueue(q) || len(q.Waiting) == 0 {
		return impl.Queue{}, 0, false
	}
	q = ownQueue(q)
	no := q.Waiting[0]
	q.Waiting = q.Waiting[1:]
	q.Handed = slices.Sorted(slices.Values(append(q.Handed, no)))
	return q, no, true
}

func wantPlayedQueue(cap, rule int, l []bool) (impl.Queue, []int, bool) {
	if !wantCapAndRule(cap, rule) || len(l) > 200 {
		return impl.Queue{}, nil, false
	}
	q := impl.Queue{Cap: cap, Rule: rule}
	told := make([]int, len(l))
	for i, isOffer := range l {
		next, no, ok := wantTurn(q, isOffer)
		if told[i] = -2; ok {
			q, told[i] = next, no
		}
	}
	return q, told, true
}

func wantWhere(q impl.Queue, no int) (int, bool) {
	if wantGoodQueue(q) {
		for i, l := range [][]int{q.Waiting, q.Handed, q.Dropped} {
			if slices.Contains(l, no) {
				return i + 1, true
			}
		}
	}
	return 0, false
}

// wantGaps goes from each one that was handed on to the next one.
func wantGaps(q impl.Queue) (int, bool) {
	if !wantGoodQueue(q) {
		return 0, false
	}
	gaps, next := 0, 0
	for _, no := range q.Handed {
		gaps += no - next
		next = no + 1
	}
	return gaps, true
}

func rules() []int {
	return []int{impl.DropOldest, impl.DropNewest, impl.DropRefuse}
}

// queueOf puts each number into the list that its place in the text tells: w, h and d.
func queueOf(cap, rule int, places string) impl.Queue {
	q := impl.Queue{Cap: cap, Rule: rule, Next: len(places)}
	for no, place := range places {
		switch place {
		case 'w':
			q.Waiting = append(q.Waiting, no)
		case 'h':
			q.Handed = append(q.Handed, no)
		case 'd':
			q.Dropped = append(q.Dropped, no)
		}
	}
	return q
}

// smallQueues is all good ones of at most so many numbers.
func smallQueues(most int) []impl.Queue {
	var l []impl.Queue
	for _, places := range textsOver("whd", 0, most) {
		for cap := max(1, strings.Count(places, "w")); cap <= most+1; cap++ {
			for _, rule := range rules() {
				l = append(l, queueOf(cap, rule, places))
			}
		}
	}
	return l
}

// drawnQueue is any good one, also such as no Offers and Hands lead to.
func drawnQueue(r *rand.Rand) impl.Queue {
	next := []int{0, 1, 2, 5, 12, 40, 98, 99, 100}[r.Intn(9)]
	cap := []int{1, 2, 3, 9, 10}[r.Intn(5)]
	places := []byte(randomOver(r, "hd", next, next))
	waiting := min(cap, next)
	if r.Intn(3) == 0 {
		waiting = r.Intn(waiting + 1)
	}
	for _, no := range r.Perm(next)[:waiting] {
		places[no] = 'w'
	}
	return queueOf(cap, 1+r.Intn(3), string(places))
}

// drawnTurns has stretches in which more are offered, and such in which more are handed on.
func drawnTurns(r *rand.Rand, many int) []bool {
	var l []bool
	isOften := 1 + r.Intn(9)
	for range many {
		if r.Intn(25) == 0 {
			isOften = r.Intn(11)
		}
		l = append(l, r.Intn(10) < isOften)
	}
	return l
}

func goodQueues() map[string]impl.Queue {
	l := map[string]impl.Queue{
		"new":                           queue("1 1 - - -"),
		"new, the greatest":             queue("10 3 - - -"),
		"one waits":                     queue("1 1 0 - -"),
		"one was handed on":             queue("1 2 - 0 -"),
		"one was dropped":               queue("1 3 - - 0"),
		"one of each":                   queue("1 1 0 1 2"),
		"one of each, the other way":    queue("1 2 2 1 0"),
		"as many wait as Cap":           queue("3 1 4,5,6 0,1 2,3"),
		"one less waits than Cap":       queue("3 1 4,5 0,1 2,3"),
		"ten wait":                      queue("10 2 0..9 - -"),
		"ten wait anyhow":               queue("10 2 0,3,6,9,12,15,18,21,24,27 1,4,7,10,13,16,19,22,25 2,5,8,11,14,17,20,23,26"),
		"the first ones wait":           queue("3 1 0,1,2 3,4 5,6"),
		"the first ones wait, newest":   queue("3 2 0,1,2 3,4 5,6"),
		"the first ones wait, refused":  queue("3 3 0,1,2 3,4 5,6"),
		"those between wait":            queue("2 1 3,5 0,6 1,2,4,7"),
		"none waits":                    queue("2 1 - 0,2,4 1,3,5"),
		"a hundred handed on":           queue("1 1 - 0..99 -"),
		"a hundred dropped":             queue("1 2 - - 0..99"),
		"a hundred, the last ones wait": queue("10 3 90..99 0..44 45..89"),
		"a hundred, the first ones":     queue("10 1 0..9 50..99 10..49"),
		"99, one waits":                 queue("1 1 98 0..97 -"),
		"99, all between":               queue("4 2 20,40,60,80 0..19,81..98 21..39,41..59,61..79"),
		"empty lists":                   {Cap: 1, Rule: 1, Waiting: []int{}, Handed: []int{}, Dropped: []int{}},
	}
	for cap := 1; cap < 11; cap++ {
		for _, rule := range rules() {
			name := fmt.Sprintf("cap %d, rule %d", cap, rule)
			l[name+", new"] = queueOf(cap, rule, "")
			l[name+", full"] = queueOf(cap, rule, "hd"+strings.Repeat("w", cap))
			l[name+", full in between"] = queueOf(cap, rule, strings.Repeat("wdh", cap))
			l[name+", not full"] = queueOf(cap, rule, "dh"+strings.Repeat("w", cap-1))
			l[name+", 99"] = queueOf(cap, rule, strings.Repeat("d", 99-cap)+strings.Repeat("w", cap))
			l[name+", 100"] = queueOf(cap, rule, strings.Repeat("w", cap)+strings.Repeat("h", 100-cap))
		}
	}
	r := rand.New(rand.NewSource(16))
	for i := range 100 {
		l["drawn "+strconv.Itoa(i)] = drawnQueue(r)
	}
	return l
}

func wrongQueues() map[string]impl.Queue {
	of := "3 1 4,6 0,3 1,2,5"
	l := map[string]impl.Queue{
		"zero":                            {},
		"zero but for Cap":                {Cap: 1},
		"zero but for Rule":               {Rule: 1},
		"cap 0":                           {Cap: 0, Rule: 1},
		"cap 11":                          {Cap: 11, Rule: 1},
		"rule 0":                          {Cap: 1, Rule: 0},
		"rule 4":                          {Cap: 1, Rule: 4},
		"next -1":                         {Cap: 1, Rule: 1, Next: -1},
		"101 handed on":                   queue("1 1 - 0..100 -"),
		"101 dropped":                     queue("1 2 - - 0..100"),
		"101, one waits":                  queue("1 3 100 0..49 50..99"),
		"two wait, cap 1":                 queue("1 1 0,1 - -"),
		"eleven wait":                     queue("10 1 0..10 - -"),
		"more wait than Cap":              queue("3 1 0,1,2,3 4 5"),
		"very many wait":                  {Cap: 10, Rule: 1, Next: 100, Waiting: make([]int, 1<<16)},
		"very many handed on":             {Cap: 10, Rule: 1, Next: 100, Handed: from(0, 1<<16)},
		"very many dropped":               {Cap: 10, Rule: 1, Next: 100, Dropped: from(0, 1<<16)},
		"very many, and Next":             {Cap: 10, Rule: 1, Next: 1 << 16, Dropped: from(0, 1<<16-1)},
		"waiting falls":                   bentQueue(of, func(q *impl.Queue) { q.Waiting = []int{6, 4} }),
		"handed falls":                    bentQueue(of, func(q *impl.Queue) { q.Handed = []int{3, 0} }),
		"dropped falls":                   bentQueue(of, func(q *impl.Queue) { q.Dropped = []int{2, 1, 5} }),
		"dropped falls in the end":        bentQueue(of, func(q *impl.Queue) { q.Dropped = []int{1, 5, 2} }),
		"waiting twice":                   bentQueue(of, func(q *impl.Queue) { q.Waiting = []int{4, 4, 6} }),
		"handed twice":                    bentQueue(of, func(q *impl.Queue) { q.Handed = []int{0, 3, 3} }),
		"dropped twice":                   bentQueue(of, func(q *impl.Queue) { q.Dropped = []int{1, 1, 2, 5} }),
		"twice instead of another one":    bentQueue(of, func(q *impl.Queue) { q.Dropped = []int{1, 2, 2} }),
		"waiting and handed":              bentQueue(of, func(q *impl.Queue) { q.Waiting = []int{0, 4, 6} }),
		"handed and waiting":              bentQueue(of, func(q *impl.Queue) { q.Handed = []int{0, 3, 6} }),
		"waiting and dropped":             bentQueue(of, func(q *impl.Queue) { q.Dropped = []int{1, 2, 4, 5} }),
		"handed and dropped":              bentQueue(of, func(q *impl.Queue) { q.Dropped = []int{0, 1, 2, 5} }),
		"in two, another one in none":     bentQueue(of, func(q *impl.Queue) { q.Handed = []int{0, 4} }),
		"in all three":                    {Cap: 1, Rule: 1, Next: 1, Waiting: []int{0}, Handed: []int{0}, Dropped: []int{0}},
		"in all three, as many as Next":   {Cap: 1, Rule: 1, Next: 3, Waiting: []int{0}, Handed: []int{0}, Dropped: []int{0}},
		"none of the first one":           bentQueue(of, func(q *impl.Queue) { q.Handed = []int{3} }),
		"none of one between":             bentQueue(of, func(q *impl.Queue) { q.Dropped = []int{1, 5} }),
		"none of the last one":            bentQueue(of, func(q *impl.Queue) { q.Waiting = []int{4} }),
		"none of any":                     {Cap: 1, Rule: 1, Next: 1},
		"none of a hundred":               {Cap: 1, Rule: 1, Next: 100},
		"Next waits":                      bentQueue(of, func(q *impl.Queue) { q.Waiting = []int{4, 6, 7} }),
		"Next waits, the last one not":    bentQueue(of, func(q *impl.Queue) { q.Waiting = []int{4, 7} }),
		"Next was handed on":              bentQueue(of, func(q *impl.Queue) { q.Handed = []int{0, 3, 7} }),
		"Next was dropped":                bentQueue(of, func(q *impl.Queue) { q.Dropped = []int{1, 2, 5, 7} }),
		"above Next":                      bentQueue(of, func(q *impl.Queue) { q.Dropped = []int{1, 2, 5, 9} }),
		"much above Next":                 bentQueue(of, func(q *impl.Queue) { q.Dropped = []int{1, 2, math.MaxInt} }),
		"-1 waits":                        bentQueue(of, func(q *impl.Queue) { q.Waiting = []int{-1, 4, 6} }),
		"-1 was handed on, instead of 0":  bentQueue(of, func(q *impl.Queue) { q.Handed = []int{-1, 3} }),
		"-1 was dropped":                  bentQueue(of, func(q *impl.Queue) { q.Dropped = []int{-1, 1, 2, 5} }),
		"much below 0":                    bentQueue(of, func(q *impl.Queue) { q.Dropped = []int{math.MinInt, 2, 5} }),
		"Next one less":                   bentQueue(of, func(q *impl.Queue) { q.Next-- }),
		"Next one more":                   bentQueue(of, func(q *impl.Queue) { q.Next++ }),
		"Next 0, with numbers":            bentQueue(of, func(q *impl.Queue) { q.Next = 0 }),
		"Next -1, with numbers":           bentQueue(of, func(q *impl.Queue) { q.Next = -1 }),
		"Next 101, of a hundred":          bentQueue("1 1 - 0..99 -", func(q *impl.Queue) { q.Next = 101 }),
		"Next 99, of a hundred":           bentQueue("1 1 - 0..99 -", func(q *impl.Queue) { q.Next = 99 }),
		"of a hundred the last one twice": bentQueue("1 1 - 0..99 -", func(q *impl.Queue) { q.Dropped = []int{99} }),
	}
	for _, n := range []int{-1, 0, 11, 12, math.MinInt, math.MaxInt} {
		l["cap "+strconv.Itoa(n)+", else right"] = bentQueue(of, func(q *impl.Queue) { q.Cap = n })
		l["cap "+strconv.Itoa(n)+", none waits"] = bentQueue("1 2 - 0 1", func(q *impl.Queue) { q.Cap = n })
	}
	for _, n := range []int{-1, 0, 4, 5, math.MinInt, math.MaxInt} {
		l["rule "+strconv.Itoa(n)+", else right"] = bentQueue(of, func(q *impl.Queue) { q.Rule = n })
	}
	for _, n := range []int{0, -1, 101, 102, math.MinInt, math.MaxInt} {
		l["next "+strconv.Itoa(n)+", else right"] = bentQueue(of, func(q *impl.Queue) { q.Next = n })
	}
	return l
}
