package tests

import (
	"math/rand"
	"slices"
	"strconv"
	"strings"

	"loop.example/g00333/impl"
)

// machine reads states as "120 12B! 222": each where it goes by a, b, c (A and B are 10 and 11), and `!` where it ends.
func machine(text string) impl.Machine {
	var m impl.Machine
	for _, word := range strings.Fields(text) {
		digits, isEnd := strings.CutSuffix(word, "!")
		var next []int
		for i := range len(digits) {
			state, err := strconv.ParseInt(digits[i:i+1], 36, 64)
			if err != nil {
				panic(err)
			}
			next = append(next, int(state))
		}
		m.Next = append(m.Next, next)
		m.Ends = append(m.Ends, isEnd)
	}
	return m
}

func sameMachine(a, b impl.Machine) bool {
	return slices.EqualFunc(a.Next, b.Next, slices.Equal[[]int]) && slices.Equal(a.Ends, b.Ends)
}

func copyOfMachine(m impl.Machine) impl.Machine {
	var c impl.Machine
	for _, next := range m.Next {
		c.Next = append(c.Next, slices.Clone(next))
	}
	c.Ends = slices.Clone(m.Ends)
	return c
}

func wantGoodMachine(m impl.Machine) bool {
	bad := slices.ContainsFunc(m.Next, func(next []int) bool {
		isNone := func(state int) bool { return state < 0 || state > len(m.Ends)-1 }
		return len(next) != 3 || slices.ContainsFunc(next, isNone)
	})
	return !bad && len(m.Next) == len(m.Ends) && len(m.Ends) > 0 && len(m.Ends) < 13
}

func wantGoodLetters(s string) bool {
	return len(s) <= 60 && strings.Trim(s, "abc") == ""
}

// wantLeads is the state that a text leads to from one.
func wantLeads(m impl.Machine, from int, s string) int {
	switch {
	case s == "":
		return from
	case s[0] == 'a':
		return wantLeads(m, m.Next[from][0], s[1:])
	case s[0] == 'b':
		return wantLeads(m, m.Next[from][1], s[1:])
	}
	return wantLeads(m, m.Next[from][2], s[1:])
}

func wantTells(m impl.Machine, s string) bool {
	return m.Ends[wantLeads(m, 0, s)]
}

// wantReached closes "one goes to the other" by going over each state between.
func wantReached(m impl.Machine) []int {
	many := len(m.Ends)
	leads := make([][]bool, many)
	for from := range many {
		leads[from] = make([]bool, many)
		leads[from][from] = true
		for _, to := range m.Next[from] {
			leads[from][to] = true
		}
	}
	for between := range many {
		for from := range many {
			for to := range many {
				leads[from][to] = leads[from][to] || leads[from][between] && leads[between][to]
			}
		}
	}
	var l []int
	for state, is := range leads[0] {
		if is {
			l = append(l, state)
		}
	}
	return l
}

// never stands for the length of a text that there is not.
const never = 1000

// wantApart tells of each two states how long the shortest text is that one tells and the other does not.
func wantApart(m impl.Machine) [][]int {
	many := len(m.Ends)
	apart := make([][]int, many)
	for one := range many {
		apart[one] = slices.Repeat([]int{never}, many)
	}
	for long := range many {
		for one := range many {
			for other := range many {
				if apart[one][other] == never && wantPartsAt(m, apart, one, other, long) {
					apart[one][other] = long
				}
			}
		}
	}
	return apart
}

func wantPartsAt(m impl.Machine, apart [][]int, one, other, long int) bool {
	if long == 0 {
		return m.Ends[one] != m.Ends[other]
	}
	for letter := range 3 {
		if apart[m.Next[one][letter]][m.Next[other][letter]] == long-1 {
			return true
		}
	}
	return false
}

// wantClasses: round k parts those that a text of k letters, and no shorter one, parts. The number of a class is its
// first state.
func wantClasses(m impl.Machine) ([]int, int) {
	apart := wantApart(m)
	var classes []int
	rounds := 0
	for state := range m.Ends {
		for one := range state {
			if apart[one][state] != never {
				rounds = max(rounds, apart[one][state])
			}
		}
		classes = append(classes, slices.Index(apart[state], never))
	}
	return classes, rounds
}

// wantDivided goes round by round, as the document tells: classes are lists of states, until there are no more of them.
func wantDivided(m impl.Machine) ([]int, int) {
	classes := listsByKey(m, func(state int) string { return strconv.FormatBool(m.Ends[state]) })
	for rounds := 0; ; rounds++ {
		numbers := numbersOfLists(m, classes)
		next := listsByKey(m, func(state int) string {
			key := strconv.Itoa(numbers[state])
			for _, to := range m.Next[state] {
				key += " " + strconv.Itoa(numbers[to])
			}
			return key
		})
		if len(next) == len(classes) {
			return numbers, rounds
		}
		classes = next
	}
}

func listsByKey(m impl.Machine, key func(state int) string) map[string][]int {
	lists := map[string][]int{}
	for state := range m.Ends {
		lists[key(state)] = append(lists[key(state)], state)
	}
	return lists
}

func numbersOfLists(m impl.Machine, lists map[string][]int) []int {
	numbers := make([]int, len(m.Ends))
	for _, list := range lists {
		for _, state := range list {
			numbers[state] = slices.Min(list)
		}
	}
	return numbers
}

// firstTexts has for each thing that texts lead to the least text that leads there, in their order; each text is gone
// through from the beginning.
func firstTexts[T comparable](leads func(s string) T) []string {
	texts := []string{""}
	for at := 0; at < len(texts); at++ {
		for _, letter := range []string{"a", "b", "c"} {
			text := texts[at] + letter
			if indexLedTo(texts, leads, text) < 0 {
				texts = append(texts, text)
			}
		}
	}
	return texts
}

func indexLedTo[T comparable](texts []string, leads func(s string) T, text string) int {
	to := leads(text)
	return slices.IndexFunc(texts, func(s string) bool { return leads(s) == to })
}

// wantByTexts is the machine whose states are what texts lead to.
func wantByTexts[T comparable](leads func(s string) T, tells func(s string) bool) impl.Machine {
	texts := firstTexts(leads)
	var m impl.Machine
	for _, text := range texts {
		var next []int
		for _, letter := range []string{"a", "b", "c"} {
			next = append(next, indexLedTo(texts, leads, text+letter))
		}
		m.Next = append(m.Next, next)
		m.Ends = append(m.Ends, tells(text))
	}
	return m
}

func wantLeast(m impl.Machine) impl.Machine {
	classes, _ := wantClasses(m)
	return wantByTexts(func(s string) int { return classes[wantLeads(m, 0, s)] }, func(s string) bool { return wantTells(m, s) })
}

// wantMet is of any number of states.
func wantMet(a, b impl.Machine) impl.Machine {
	return wantByTexts(func(s string) [2]int { return [2]int{wantLeads(a, 0, s), wantLeads(b, 0, s)} }, func(s string) bool { return wantTells(a, s) && wantTells(b, s) })
}

func wantTurned(m impl.Machine) impl.Machine {
	c := copyOfMachine(m)
	for state, ends := range m.Ends {
		c.Ends[state] = !ends
	}
	return c
}

// bothInOne has the states of both, those of the second one behind.
func bothInOne(a, b impl.Machine) impl.Machine {
	both := copyOfMachine(a)
	for _, next := range b.Next {
		var moved []int
		for _, to := range next {
			moved = append(moved, to+len(a.Next))
		}
		both.Next = append(both.Next, moved)
	}
	both.Ends = append(both.Ends, b.Ends...)
	return both
}

// wantParting goes, letter by letter, to where one letter fewer parts both.
func wantParting(a, b impl.Machine) (string, bool) {
	both := bothInOne(a, b)
	apart := wantApart(both)
	one, other := 0, len(a.Next)
	if apart[one][other] == never {
		return "", true
	}
	text := ""
	for apart[one][other] > 0 {
		letter := 0
		for apart[both.Next[one][letter]][both.Next[other][letter]] != apart[one][other]-1 {
			letter++
		}
		text += "abc"[letter : letter+1]
		one, other = both.Next[one][letter], both.Next[other][letter]
	}
	return text, false
}

// isLeast: whether no two states tell the same, all are reached, and they are numbered as they come.
func isLeast(m impl.Machine) bool {
	apart := wantApart(m)
	for one := range m.Ends {
		for other := range one {
			if apart[one][other] == never {
				return false
			}
		}
	}
	come := 0
	for state, next := range m.Next {
		if state > come {
			return false
		}
		for _, to := range next {
			if to > come+1 {
				return false
			}
			come = max(come, to)
		}
	}
	return come == len(m.Ends)-1
}

// Machines.

// machinesOf is all machines of so many states, of which each in a row of so many is taken.
func machinesOf(many, each int) []impl.Machine {
	rows := 2 * many * many * many
	all := 1
	for range many {
		all *= rows
	}
	var l []impl.Machine
	for no := 0; no < all; no += each {
		var m impl.Machine
		for left, state := no, 0; state < many; state++ {
			row := left % rows
			left /= rows
			m.Next = append(m.Next, []int{row / 2 % many, row / 2 / many % many, row / 2 / many / many})
			m.Ends = append(m.Ends, row%2 == 1)
		}
		l = append(l, m)
	}
	return l
}

// smallMachines is all of one and two states, and some of three.
func smallMachines() []impl.Machine {
	return append(append(machinesOf(1, 1), machinesOf(2, 1)...), machinesOf(3, 37)...)
}

// randomMachine has all kinds: those that go anywhere, that go on by few letters, that stay; of few ends and of many.
func randomMachine(r *rand.Rand, many int) impl.Machine {
	var m impl.Machine
	way, often := r.Intn(4), 1+r.Intn(4)
	for state := range many {
		next := []int{r.Intn(many), r.Intn(many), r.Intn(many)}
		switch way {
		case 1:
			next = []int{(state + 1) % many, state, r.Intn(many)}
		case 2:
			next = []int{min(state+1, many-1), r.Intn(state + 1), r.Intn(state + 1)}
		case 3:
			next = []int{r.Intn(many)/2 + many/3, state, r.Intn(many) / 2}
		}
		r.Shuffle(3, func(i, k int) { next[i], next[k] = next[k], next[i] })
		m.Next = append(m.Next, next)
		m.Ends = append(m.Ends, r.Intn(often+1) == 0)
	}
	return m
}

func randomMachines(seed int64, many int) []impl.Machine {
	r := rand.New(rand.NewSource(seed))
	var l []impl.Machine
	for range many {
		l = append(l, randomMachine(r, 1+r.Intn(impl.MaxStates)))
	}
	return l
}

// renumbered has the state at each place of the order there; the first one stays where it is.
func renumbered(m impl.Machine, order []int) impl.Machine {
	var c impl.Machine
	for _, state := range order {
		var next []int
		for _, to := range m.Next[state] {
			next = append(next, slices.Index(order, to))
		}
		c.Next = append(c.Next, next)
		c.Ends = append(c.Ends, m.Ends[state])
	}
	return c
}

func randomOrder(r *rand.Rand, many int) []int {
	order := []int{0}
	for _, state := range r.Perm(many - 1) {
		order = append(order, state+1)
	}
	return order
}

// doubled has more states, copies of others, and goes to any of the copies where the machine goes to that state.
func doubled(r *rand.Rand, m impl.Machine, more int) impl.Machine {
	var of []int
	for state := range m.Ends {
		of = append(of, state)
	}
	for range more {
		of = append(of, r.Intn(len(m.Ends)))
	}
	var c impl.Machine
	for _, state := range of {
		var next []int
		for _, to := range m.Next[state] {
			copies := slices.DeleteFunc(r.Perm(len(of)), func(i int) bool { return of[i] != to })
			next = append(next, copies[0])
		}
		c.Next = append(c.Next, next)
		c.Ends = append(c.Ends, m.Ends[state])
	}
	return c
}

// withUnreached has more states behind, to which none of the machine's own goes.
func withUnreached(r *rand.Rand, m impl.Machine, more int) impl.Machine {
	c := copyOfMachine(m)
	many := len(m.Ends) + more
	for range more {
		c.Next = append(c.Next, []int{r.Intn(many), r.Intn(many), r.Intn(many)})
		c.Ends = append(c.Ends, r.Intn(2) == 0)
	}
	return c
}

// randomLike tells the same texts, with its states doubled, added and renumbered.
func randomLike(r *rand.Rand, m impl.Machine) impl.Machine {
	m = doubled(r, m, r.Intn(impl.MaxStates-len(m.Ends)+1))
	m = withUnreached(r, m, r.Intn(impl.MaxStates-len(m.Ends)+1))
	return renumbered(m, randomOrder(r, len(m.Ends)))
}

// counting goes round so many states by one of the letters, stays by the others, and ends in the states told.
func counting(many, letter int, ends ...int) impl.Machine {
	var m impl.Machine
	for state := range many {
		next := []int{state, state, state}
		next[letter] = (state + 1) % many
		m.Next = append(m.Next, next)
		m.Ends = append(m.Ends, slices.Contains(ends, state))
	}
	return m
}

// upTo goes on by a letter as far as the last state, stays by the others, and ends in the states told.
func upTo(many, letter int, ends ...int) impl.Machine {
	m := counting(many, letter, ends...)
	m.Next[many-1][letter] = many - 1
	return m
}
