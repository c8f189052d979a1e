package tests

import (
	"math"
	"math/rand"
	"slices"
	"strconv"
	"strings"
	"testing"

	"loop.example/g00333/impl"
)

func TestMachineConstants(t *testing.T) {
	if impl.MaxStates != 12 || impl.Letters != 3 {
		t.Error(impl.MaxStates, impl.Letters)
	}
}

func TestMachineNotation(t *testing.T) {
	want := impl.Machine{Next: [][]int{{1, 2, 0}, {10, 11, 9}}, Ends: []bool{false, true}}
	if m := machine("120 AB9!"); !sameMachine(m, want) || !sameMachine(machine(""), impl.Machine{}) {
		t.Error("no test: the notation of machines:", m)
	}
	if m := counting(3, 1, 2); !sameMachine(m, machine("010 121 202!")) {
		t.Error("no test: a machine that counts:", m)
	}
	if m := upTo(3, 0, 0, 1); !sameMachine(m, machine("100! 211! 222")) {
		t.Error("no test: a machine that goes on:", m)
	}
	if many := len(machinesOf(1, 1)) + len(machinesOf(2, 1)); many != 2+256 || len(machinesOf(3, 1)) != 54*54*54 {
		t.Error("no test: so many machines:", many)
	}
	if m := renumbered(machine("120! 110 022!"), []int{0, 2, 1}); !sameMachine(m, machine("210! 011! 220")) {
		t.Error("no test: a machine renumbered:", m)
	}
}

// Good machines.

func goodMachines() map[string]impl.Machine {
	return map[string]impl.Machine{
		"one state":              machine("000"),
		"one state that ends":    machine("000!"),
		"two states":             machine("101 010!"),
		"the states of the page": machine("120 120 222! 000!"),
		"the last state":         machine("222 222 222!"),
		"twelve states":          counting(12, 0, 11),
		"twelve, all to one":     {Next: slices.Repeat([][]int{{11, 11, 11}}, 12), Ends: make([]bool, 12)},
		"twelve, all end":        {Next: slices.Repeat([][]int{{0, 5, 11}}, 12), Ends: slices.Repeat([]bool{true}, 12)},
		"twelve, far":            upTo(12, 2, 0),
	}
}

// wrongMachines are not good in any place.
func wrongMachines() map[string]impl.Machine {
	l := map[string]impl.Machine{
		"no states":                {},
		"empty lists":              {Next: [][]int{}, Ends: []bool{}},
		"Ends alone":               {Ends: []bool{true}},
		"Next alone":               {Next: [][]int{{0, 0, 0}}},
		"thirteen states":          counting(13, 0, 3),
		"thirteen, to 0 alone":     {Next: slices.Repeat([][]int{{0, 0, 0}}, 13), Ends: make([]bool, 13)},
		"very many states":         {Next: slices.Repeat([][]int{{0, 0, 0}}, 1<<12), Ends: make([]bool, 1<<12)},
		"one fewer of Ends":        {Next: counting(3, 0).Next, Ends: make([]bool, 2)},
		"one more of Ends":         {Next: counting(3, 0).Next, Ends: make([]bool, 4)},
		"twelve, thirteen Ends":    {Next: counting(12, 0).Next, Ends: make([]bool, 13)},
		"thirteen, twelve Ends":    {Next: counting(13, 0).Next, Ends: make([]bool, 12)},
		"very many Ends":           {Next: counting(12, 0).Next, Ends: make([]bool, 1<<12)},
		"one nil list":             {Next: [][]int{nil}, Ends: []bool{true}},
		"one empty list":           {Next: [][]int{{}}, Ends: []bool{false}},
		"one list of two":          machine("00"),
		"one list of four":         machine("0000!"),
		"one list of six":          machine("000000"),
		"nil lists":                {Next: make([][]int, 3), Ends: make([]bool, 3)},
		"two lists as one":         machine("000000 !"),
		"a list of very many":      {Next: [][]int{make([]int, 1<<12)}, Ends: []bool{true}},
		"one state, to one behind": machine("001"),
	}
	for _, many := range []int{1, 2, 5, 12} {
		for _, state := range []int{0, many / 2, many - 1} {
			for long := range 6 {
				m := counting(many, 0, 0)
				m.Next[state] = make([]int, long)
				if long != 3 {
					l["of "+strconv.Itoa(many)+" state "+strconv.Itoa(state)+" goes "+strconv.Itoa(long)+" ways"] = m
				}
			}
			for letter := range 3 {
				for _, to := range []int{-1, many, many + 1, -many, 12, 13, math.MinInt, math.MaxInt, math.MinInt + 1, math.MaxInt - 1, 1 << 32, -1 << 32} {
					m := counting(many, 0, 0)
					m.Next[state][letter] = to
					if to != 12 || many < 12 {
						l["of "+strconv.Itoa(many)+" state "+strconv.Itoa(state)+" goes by "+strconv.Itoa(letter)+" to "+strconv.Itoa(to)] = m
					}
				}
			}
		}
	}
	return l
}

func TestGoodMachine(t *testing.T) {
	for name, m := range goodMachines() {
		if !impl.GoodMachine(m) || !wantGoodMachine(m) {
			t.Errorf("%s: %v is not good", name, m)
		}
	}
	for name, m := range wrongMachines() {
		if impl.GoodMachine(m) || wantGoodMachine(m) {
			t.Errorf("%s: %v is good", name, m)
		}
	}
}

// Each state may be gone to from each place, -1 and one behind the last from none.
func TestGoodMachineEachPlace(t *testing.T) {
	for many := 1; many <= 13; many++ {
		for state := range many {
			for letter := range 3 {
				for to := -2; to < 15; to++ {
					m := counting(many, 0)
					m.Next[state][letter] = to
					want := many <= 12 && to >= 0 && to < many
					if got := impl.GoodMachine(m); got != want {
						t.Errorf("of %d states, %d goes by %d to %d: GoodMachine = %v", many, state, letter, to, got)
					}
				}
			}
		}
	}
}

func TestWrongMachinesGiveTheZeroAnswer(t *testing.T) {
	for name, m := range wrongMachines() {
		for _, s := range []string{"", "a", "abc", strings.Repeat("a", 61), "x"} {
			if got, ok := impl.RunMachine(m, s); got || ok {
				t.Errorf("%s: RunMachine = %v, %v", name, got, ok)
			}
		}
		if got, ok := impl.ReachedOf(m); len(got) != 0 || ok {
			t.Errorf("%s: ReachedOf = %v, %v", name, got, ok)
		}
		if got, rounds, ok := impl.ClassesOf(m); len(got) != 0 || rounds != 0 || ok {
			t.Errorf("%s: ClassesOf = %v, %d, %v", name, got, rounds, ok)
		}
		if got, ok := impl.LeastOf(m); !sameMachine(got, impl.Machine{}) || ok {
			t.Errorf("%s: LeastOf = %v, %v", name, got, ok)
		}
		if got, ok := impl.TurnMachine(m); !sameMachine(got, impl.Machine{}) || ok {
			t.Errorf("%s: TurnMachine = %v, %v", name, got, ok)
		}
		for _, other := range []impl.Machine{m, machine("000"), machine("000!"), machine("101! 010"), counting(12, 1, 5)} {
			for _, two := range [][2]impl.Machine{{m, other}, {other, m}} {
				if got, same, ok := impl.SameLanguage(two[0], two[1]); got != "" || same || ok {
					t.Errorf("%s: SameLanguage = %q, %v, %v", name, got, same, ok)
				}
				if got, ok := impl.MeetMachines(two[0], two[1]); !sameMachine(got, impl.Machine{}) || ok {
					t.Errorf("%s: MeetMachines = %v, %v", name, got, ok)
				}
			}
		}
	}
}

// Runs.

func TestRunMachineTable(t *testing.T) {
	m := machine("120 120 222! 000!")
	for s, want := range map[string]bool{
		"": false, "a": false, "b": true, "c": false, "aa": false, "ab": true, "ac": false, "ba": true, "bc": true, "cccc": false, "acacb": true,
		"cab": true, "acca": false, "bbbb": true,
	} {
		if got, ok := impl.RunMachine(m, s); got != want || !ok || wantTells(m, s) != want {
			t.Errorf("RunMachine(%q) = %v, %v; want %v", s, got, ok, want)
		}
	}
	for ends, text := range []string{"000", "000!"} {
		for _, s := range []string{"", "a", "b", "c", "abc"} {
			if got, ok := impl.RunMachine(machine(text), s); got != (ends == 1) || !ok {
				t.Errorf("%s: RunMachine(%q) = %v, %v", text, s, got, ok)
			}
		}
	}
}

// Each of the twelve states is told by itself, each letter is a way of its own.
func TestRunMachineCounts(t *testing.T) {
	for letter := range 3 {
		for end := range 12 {
			m := counting(12, letter, end)
			for many := range 61 {
				for other := range 3 {
					s := strings.Repeat("abc"[other:other+1], many)
					want := other == letter && many%12 == end || other != letter && end == 0
					if got, ok := impl.RunMachine(m, s); got != want || !ok {
						t.Errorf("letter %d, end %d: RunMachine(%q) = %v, %v; want %v", letter, end, s, got, ok, want)
					}
				}
			}
		}
	}
}

func TestRunMachineAllShortTexts(t *testing.T) {
	texts := textsOver("abc", 0, 5)
	for _, m := range append(smallMachines(), randomMachines(1, 300)...) {
		for _, s := range texts {
			if got, ok := impl.RunMachine(m, s); got != wantTells(m, s) || !ok {
				t.Errorf("%v: RunMachine(%q) = %v, %v", m, s, got, ok)
			}
		}
	}
	if len(texts) != 364 {
		t.Error("no test: so many texts:", len(texts))
	}
}

func TestRunMachineRandomTexts(t *testing.T) {
	r := rand.New(rand.NewSource(2))
	told := [2]int{}
	for _, m := range randomMachines(2, 600) {
		for range 40 {
			s := randomOver(r, "abc", 0, 60)
			want := wantTells(m, s)
			if got, ok := impl.RunMachine(m, s); got != want || !ok {
				t.Errorf("%v: RunMachine(%q) = %v, %v; want %v", m, s, got, ok, want)
			}
			if want {
				told[1]++
			} else {
				told[0]++
			}
		}
	}
	if told[0] < 3000 || told[1] < 3000 {
		t.Error("no test: so many are told, and not:", told)
	}
}

func TestRunMachineLongTexts(t *testing.T) {
	for name, m := range goodMachines() {
		for _, piece := range []string{"a", "b", "c", "ab", "abc", "cba"} {
			long := strings.Repeat(piece, 61)
			for _, many := range []int{58, 59, 60} {
				if got, ok := impl.RunMachine(m, long[:many]); got != wantTells(m, long[:many]) || !ok {
					t.Errorf("%s: RunMachine of %d bytes = %v, %v", name, many, got, ok)
				}
			}
			for _, s := range []string{long[:61], long + long, strings.Repeat(long, 100)} {
				if len(s) < 61 {
					continue
				}
				if got, ok := impl.RunMachine(m, s); got || ok {
					t.Errorf("%s: RunMachine of %d bytes = %v, %v", name, len(s), got, ok)
				}
			}
		}
	}
}

func TestRunMachineOtherBytes(t *testing.T) {
	m := machine("000!")
	for c := range 256 {
		b := string([]byte{byte(c)})
		want := c >= 'a' && c <= 'c'
		for _, s := range []string{b, b + "a", "a" + b, "ab" + b + "ca", b + strings.Repeat("a", 59), strings.Repeat("c", 30) + b + strings.Repeat("c", 29), strings.Repeat("b", 59) + b} {
			if got, ok := impl.RunMachine(m, s); got != want || ok != want {
				t.Errorf("RunMachine(%q) = %v, %v", s, got, ok)
			}
		}
	}
	for _, s := range []string{"abcd", "dabc", "ab c", "A", "aBc", "ä", "a\n", "a\x00", "1"} {
		for name, m := range goodMachines() {
			if got, ok := impl.RunMachine(m, s); got || ok {
				t.Errorf("%s: RunMachine(%q) = %v, %v", name, s, got, ok)
			}
		}
	}
}

// What is reached.

func reached(t *testing.T, m impl.Machine) int {
	t.Helper()
	want := wantReached(m)
	if got, ok := impl.ReachedOf(m); !slices.Equal(got, want) || !ok {
		t.Errorf("%v: ReachedOf = %v, %v; want %v", m, got, ok, want)
	}
	return len(want)
}

func TestReachedOfTable(t *testing.T) {
	for text, want := range map[string][]int{
		"000":                     {0},
		"000!":                    {0},
		"000 111":                 {0},
		"001 000":                 {0, 1},
		"010 222 111":             {0, 1, 2},
		"120 120 222! 000!":       {0, 1, 2},
		"222 000 222":             {0, 2},
		"000 012 120 333":         {0},
		"300 000 111 330!":        {0, 3},
		"400 100 123 330 442":     {0, 1, 2, 3, 4},
		"055 555 555 555 555 000": {0, 5},
		"BBB 000 000 000 000 000 000 000 000 000 000 AAA": {0, 10, 11},
		"000 222 333 444 555 666 777 888 999 AAA BBB 000": {0},
		"0B0 222 333 444 555 666 777 888 999 AAA BBB 0A1": {0, 1, 2, 3, 4, 5, 6, 7, 8, 9, 10, 11},
	} {
		m := machine(text)
		if got, ok := impl.ReachedOf(m); !slices.Equal(got, want) || !ok || !slices.Equal(wantReached(m), want) {
			t.Errorf("%s: ReachedOf = %v, %v; want %v", text, got, ok, want)
		}
	}
}

func TestReachedOfShapes(t *testing.T) {
	var all []int
	for many := 1; many <= 12; many++ {
		all = append(all, many-1)
		for letter := range 3 {
			for _, m := range []impl.Machine{counting(many, letter), upTo(many, letter, many-1)} {
				if got, ok := impl.ReachedOf(m); !slices.Equal(got, all) || !ok {
					t.Errorf("%v: ReachedOf = %v, %v", m, got, ok)
				}
				// State 0 goes to itself alone, and behind each place none is reached.
				for cut := range many {
					c := copyOfMachine(m)
					c.Next[cut][letter] = cut
					if got, ok := impl.ReachedOf(c); !slices.Equal(got, all[:cut+1]) || !ok {
						t.Errorf("%v: ReachedOf = %v, %v", c, got, ok)
					}
				}
			}
		}
	}
}

func TestReachedOfSmallAndRandomMachines(t *testing.T) {
	whole, part := 0, 0
	for _, m := range append(smallMachines(), randomMachines(3, 2000)...) {
		if reached(t, m) == len(m.Ends) {
			whole++
		} else {
			part++
		}
	}
	if whole < 1000 || part < 1000 {
		t.Error("no test: so many are reached wholly, and in part:", whole, part)
	}
}

// Classes.

func classed(t *testing.T, m impl.Machine) int {
	t.Helper()
	classes, rounds, ok := impl.ClassesOf(m)
	want, wantRounds := wantClasses(m)
	if !slices.Equal(classes, want) || rounds != wantRounds || !ok {
		t.Errorf("%v: ClassesOf = %v, %d, %v; want %v, %d", m, classes, rounds, ok, want, wantRounds)
	}
	for state, class := range classes {
		if class != slices.Index(classes, class) {
			t.Errorf("%v: ClassesOf = %v: the class of %d has not its first state's number", m, classes, state)
		}
	}
	divided, dividedRounds := wantDivided(m)
	if !slices.Equal(classes, divided) || rounds != dividedRounds {
		t.Errorf("%v: ClassesOf = %v, %d; round by round %v, %d", m, classes, rounds, divided, dividedRounds)
	}
	return rounds
}

func TestClassesOfTable(t *testing.T) {
	type told struct {
		classes []int
		rounds  int
	}
	for text, want := range map[string]told{
		"000":  {[]int{0}, 0},
		"000!": {[]int{0}, 0},
		// All alike in Ends: one class, and no round.
		"111 000":              {[]int{0, 0}, 0},
		"111! 000!":            {[]int{0, 0}, 0},
		"123 012 231 300":      {[]int{0, 0, 0, 0}, 0},
		"123! 012! 231! 300!":  {[]int{0, 0, 0, 0}, 0},
		"000 111!":             {[]int{0, 1}, 0},
		"000! 111":             {[]int{0, 1}, 0},
		"111! 000 222!":        {[]int{0, 1, 2}, 1},
		"222 222 000!":         {[]int{0, 0, 2}, 0},
		"111 222 222!":         {[]int{0, 1, 2}, 1},
		"000 222! 111!":        {[]int{0, 1, 1}, 0},
		"000! 111 222! 333":    {[]int{0, 1, 0, 1}, 0},
		"120 120 222! 000!":    {[]int{0, 0, 2, 3}, 1},
		"111 222 333 333!":     {[]int{0, 1, 2, 3}, 2},
		"333 111! 000 222":     {[]int{0, 1, 0, 0}, 0},
		"333 111! 100 222":     {[]int{0, 1, 2, 3}, 2},
		"000 121 212 343 434!": {[]int{0, 0, 0, 3, 4}, 1},
		// By the last letter alone they are unlike, by the first, by the middle one.
		"000 001 002!": {[]int{0, 0, 2}, 0},
		"001 002 000!": {[]int{0, 1, 2}, 1},
		"100 200 000!": {[]int{0, 1, 2}, 1},
		"010 020 000!": {[]int{0, 1, 2}, 1},
		// Two classes are parted in one round.
		"000 200 000! 003!": {[]int{0, 1, 2, 3}, 1},
		// A class that only comes to be in the first round parts another one in the second.
		"200 300 022! 333!": {[]int{0, 1, 2, 3}, 2},
		// The number of a class is its first state's place, however many classes stand ahead of it.
		"101! 101! 020":                                     {[]int{0, 0, 2}, 0},
		"123 344 033! 022! 304!":                            {[]int{0, 1, 2, 2, 4}, 1},
		"000! 000! 222 222 000!":                            {[]int{0, 0, 2, 2, 0}, 0},
		"000 000 333 444 444!":                              {[]int{0, 0, 2, 3, 4}, 2},
		"BBB 000 111 222 333 444 555 666 777 888 999 BBB!":  {[]int{0, 1, 2, 3, 4, 5, 6, 7, 8, 9, 10, 11}, 10},
		"000 111 222 333 444 555 666 777 888 999 AAA BBB!":  {[]int{0, 0, 0, 0, 0, 0, 0, 0, 0, 0, 0, 11}, 0},
		"000 000 000 000 000 555! 444 444 BBB 999 AAA BBB!": {[]int{0, 0, 0, 0, 0, 5, 0, 0, 8, 0, 0, 5}, 1},
	} {
		m := machine(text)
		classes, rounds, ok := impl.ClassesOf(m)
		if !slices.Equal(classes, want.classes) || rounds != want.rounds || !ok {
			t.Errorf("%s: ClassesOf = %v, %d, %v; want %v, %d", text, classes, rounds, ok, want.classes, want.rounds)
		}
		classed(t, m)
	}
}

// A chain parts one state in each round: so many states want two rounds fewer, and no machine wants more.
func TestClassesOfChains(t *testing.T) {
	for many := 2; many <= 12; many++ {
		for letter := range 3 {
			var own []int
			for state := range many {
				own = append(own, state)
			}
			chains := []impl.Machine{upTo(many, letter, many-1), counting(many, letter, many-1), wantTurned(upTo(many, letter, many-1))}
			for _, m := range chains {
				classes, rounds, ok := impl.ClassesOf(m)
				if !slices.Equal(classes, own) || rounds != many-2 || !ok {
					t.Errorf("%v: ClassesOf = %v, %d, %v; want %d rounds", m, classes, rounds, ok, many-2)
				}
				classed(t, m)
			}
			// Of all ends, and of none.
			for _, m := range []impl.Machine{upTo(many, letter), upTo(many, letter, own...), counting(many, letter), counting(many, letter, own...)} {
				classes, rounds, ok := impl.ClassesOf(m)
				if !slices.Equal(classes, make([]int, many)) || rounds != 0 || !ok {
					t.Errorf("%v: ClassesOf = %v, %d, %v", m, classes, rounds, ok)
				}
			}
		}
	}
}

// Twelve states that end by turns are of two classes; those that end each third time of three.
func TestClassesOfCounts(t *testing.T) {
	for _, every := range []int{1, 2, 3, 4, 6, 12} {
		var ends, want []int
		for state := range 12 {
			want = append(want, state%every)
			if state%every == every-1 {
				ends = append(ends, state)
			}
		}
		m := counting(12, 1, ends...)
		if classes, rounds, ok := impl.ClassesOf(m); !slices.Equal(classes, want) || rounds != max(0, every-2) || !ok {
			t.Errorf("each %d: ClassesOf = %v, %d, %v", every, classes, rounds, ok)
		}
	}
}

// States that are not reached have a class too, of their own or together with others.
func TestClassesOfUnreached(t *testing.T) {
	m := machine("000 111! 222 322 333! 511! 444")
	if got, _ := impl.ReachedOf(m); !slices.Equal(got, []int{0}) {
		t.Error("no test: so much is reached:", got)
	}
	if classes, rounds, ok := impl.ClassesOf(m); !slices.Equal(classes, []int{0, 1, 0, 0, 4, 1, 6}) || rounds != 1 || !ok {
		t.Errorf("ClassesOf = %v, %d, %v", classes, rounds, ok)
	}
	classed(t, m)
	// Those behind make as many rounds as there can be, though none of them is reached.
	far := upTo(12, 0, 11)
	far.Next[0][0] = 0
	far.Next[1] = []int{2, 1, 1}
	if classes, rounds, ok := impl.ClassesOf(far); !slices.Equal(classes, []int{0, 1, 2, 3, 4, 5, 6, 7, 8, 9, 10, 11}) || rounds != 10 || !ok {
		t.Errorf("ClassesOf = %v, %d, %v", classes, rounds, ok)
	}
}

func TestClassesOfSmallMachines(t *testing.T) {
	texts := textsOver("abc", 0, 3)
	rounds := map[int]int{}
	for _, m := range smallMachines() {
		rounds[classed(t, m)]++
		// Just the states of one class tell the same of all texts.
		classes, _, _ := impl.ClassesOf(m)
		for one := range m.Ends {
			for other := range m.Ends {
				same := !slices.ContainsFunc(texts, func(s string) bool {
					return m.Ends[wantLeads(m, one, s)] != m.Ends[wantLeads(m, other, s)]
				})
				if (classes[one] == classes[other]) != same {
					t.Errorf("%v: ClassesOf = %v; %d and %d", m, classes, one, other)
				}
			}
		}
	}
	if len(rounds) != 2 || rounds[0] < 100 || rounds[1] < 100 {
		t.Error("no test: so many rounds:", rounds)
	}
}

func TestClassesOfRandomMachines(t *testing.T) {
	r := rand.New(rand.NewSource(4))
	rounds := map[int]int{}
	fewer, gaps := 0, 0
	for _, m := range randomMachines(4, 2500) {
		rounds[classed(t, m)]++
		like := randomLike(r, m)
		rounds[classed(t, like)]++
		classes, _, _ := impl.ClassesOf(like)
		many := len(slices.Compact(slices.Sorted(slices.Values(classes))))
		if many < len(classes) {
			fewer++
		}
		// The places of first states tell other numbers than counting the classes would.
		if slices.Max(classes) > many-1 {
			gaps++
		}
	}
	if fewer < 500 || gaps < 500 || len(rounds) < 7 {
		t.Error("no test: so many with fewer classes, with numbers that are left out, so many rounds:", fewer, gaps, rounds)
	}
}

// The least one.

// leastMade holds LeastOf against the machine by texts, and by what makes it the least one; it tells that.
func leastMade(t *testing.T, m impl.Machine) impl.Machine {
	t.Helper()
	least, ok := impl.LeastOf(m)
	if want := wantLeast(m); !sameMachine(least, want) || !ok {
		t.Errorf("%v: LeastOf = %v, %v; want %v", m, least, ok, want)
		return wantLeast(m)
	}
	if !impl.GoodMachine(least) || !isLeast(least) || len(least.Ends) > len(m.Ends) {
		t.Errorf("%v: LeastOf = %v is not least", m, least)
	}
	if text, same := wantParting(m, least); !same {
		t.Errorf("%v: LeastOf = %v tells another %q", m, least, text)
	}
	if text, same, ok := impl.SameLanguage(m, least); text != "" || !same || !ok {
		t.Errorf("%v: SameLanguage with LeastOf = %q, %v, %v", m, text, same, ok)
	}
	if again, ok := impl.LeastOf(least); !sameMachine(again, least) || !ok {
		t.Errorf("%v: LeastOf of LeastOf = %v, %v", m, again, ok)
	}
	return least
}

func TestLeastOfTable(t *testing.T) {
	for text, want := range map[string]string{
		"000":                "000",
		"000!":               "000!",
		"000 111!":           "000",
		"000! 111":           "000!",
		"111 000":            "000",
		"111! 000!":          "000!",
		"111 000!":           "111 000!",
		"120 120 222! 000!":  "010 111!",
		"222 111! 000!":      "111 000!",
		"321 111! 222! 333!": "111 111!",
		"111 222 333 333!":   "111 222 333 333!",
		"333 222! 222! 111":  "111 222 222!",
		"000 111 222 333!":   "000",
		"120! 201! 012!":     "000!",
		"021 111! 222!":      "011 111!",
		"013 111! 222! 333":  "012 111! 222",
		// State by state, letter by letter, each that is new.
		"210 111! 222":             "120 111 222!",
		"201 111! 222":             "102 111 222!",
		"300 111! 232 212!":        "100 232! 212 333!",
		"555 000 111! 222 333 444": "111 222 333 444 555! 000",
		"031 222! 222 333!":        "012 111! 333! 333",
		"302 111! 231 333":         "102 111 213 333!",
		// What is reached is renumbered, though it is of classes of its own.
		"200 111 222!": "100 111!",
		"BBB 000 000 000 000 000 000 000 000 000 000 0B0!": "111 010!",
	} {
		least, ok := impl.LeastOf(machine(text))
		if !sameMachine(least, machine(want)) || !ok {
			t.Errorf("%s: LeastOf = %v, %v; want %s", text, least, ok, want)
		}
		leastMade(t, machine(text))
	}
}

func TestLeastOfSmallMachines(t *testing.T) {
	texts := textsOver("abc", 0, 4)
	many := map[int]int{}
	for _, m := range smallMachines() {
		least := leastMade(t, m)
		many[len(least.Ends)]++
		for _, s := range texts {
			if got, ok := impl.RunMachine(least, s); got != wantTells(m, s) || !ok {
				t.Errorf("%v: LeastOf = %v, and tells %v of %q", m, least, got, s)
			}
		}
	}
	if many[1] < 100 || many[2] < 100 || many[3] < 100 {
		t.Error("no test: so many are of one state, of two, of three:", many)
	}
}

// One for all that tell the same: of all machines of two states, and of some of three, by all texts that could part them.
func TestLeastOfIsOneForAllThatTellTheSame(t *testing.T) {
	texts := textsOver("abc", 0, 4)
	byTold := map[string]impl.Machine{}
	kinds := map[string]string{}
	for _, m := range append(append(machinesOf(1, 1), machinesOf(2, 1)...), machinesOf(3, 101)...) {
		told := ""
		for _, s := range texts {
			is, _ := impl.RunMachine(m, s)
			told += strconv.FormatBool(is)[:1]
		}
		least, _ := impl.LeastOf(m)
		if first, isThere := byTold[told]; isThere && !sameMachine(first, least) {
			t.Errorf("%v: LeastOf = %v; another one that tells the same has %v", m, least, first)
		}
		byTold[told] = least
		key := machineText(least)
		if other, isThere := kinds[key]; isThere && other != told {
			t.Errorf("%v: LeastOf = %v, which one has that tells another thing", m, least)
		}
		kinds[key] = told
	}
	if len(kinds) != len(byTold) || len(kinds) < 500 {
		t.Error("no test: so many least ones:", len(kinds), len(byTold))
	}
}

func machineText(m impl.Machine) string {
	text := ""
	for state, next := range m.Next {
		for _, to := range next {
			text += strconv.Itoa(to) + " "
		}
		text += strconv.FormatBool(m.Ends[state]) + ","
	}
	return text
}

func TestLeastOfRandomMachines(t *testing.T) {
	r := rand.New(rand.NewSource(5))
	texts := textsOver("abc", 0, 4)
	fewer, greatest := 0, 0
	for _, m := range randomMachines(5, 1200) {
		least := leastMade(t, m)
		if len(least.Ends) < len(m.Ends) {
			fewer++
		}
		if len(least.Ends) == impl.MaxStates {
			greatest++
		}
		for _, s := range append(texts, randomOver(r, "abc", 5, 60)) {
			if got, _ := impl.RunMachine(least, s); got != wantTells(m, s) {
				t.Errorf("%v: LeastOf = %v, and tells %v of %q", m, least, got, s)
				break
			}
		}
	}
	if fewer < 200 || greatest < 20 {
		t.Error("no test: so many have fewer states, so many have all twelve:", fewer, greatest)
	}
}

// Renumbered, doubled, and with states that are never reached it is the same one, field by field.
func TestLeastOfMachinesMadeLike(t *testing.T) {
	r := rand.New(rand.NewSource(6))
	more := 0
	for range 1500 {
		m := randomMachine(r, 1+r.Intn(8))
		least := leastMade(t, m)
		room := impl.MaxStates - len(m.Ends)
		for name, like := range map[string]impl.Machine{
			"renumbered":     renumbered(m, randomOrder(r, len(m.Ends))),
			"doubled":        doubled(r, m, room),
			"with unreached": withUnreached(r, m, room),
			"all of it":      randomLike(r, m),
			"the least one":  randomLike(r, least),
		} {
			got, ok := impl.LeastOf(like)
			if !sameMachine(got, least) || !ok {
				t.Errorf("%v, %s: LeastOf(%v) = %v, %v; want %v", m, name, like, got, ok, least)
			}
			if _, same, ok := impl.SameLanguage(m, like); !same || !ok {
				t.Errorf("%v, %s: %v tells another thing", m, name, like)
			}
			if len(like.Ends) > len(least.Ends) {
				more++
			}
		}
	}
	if more < 3000 {
		t.Error("no test: so many have more states than the least one:", more)
	}
}

func TestLeastOfOneState(t *testing.T) {
	for many := 1; many <= 12; many++ {
		var all []int
		for state := range many {
			all = append(all, state)
		}
		for letter := range 3 {
			none, okNone := impl.LeastOf(counting(many, letter))
			each, okEach := impl.LeastOf(upTo(many, letter, all...))
			if !sameMachine(none, machine("000")) || !sameMachine(each, machine("000!")) || !okNone || !okEach {
				t.Errorf("%d states: LeastOf = %v, %v", many, none, each)
			}
		}
	}
}

// Of classes of their own, numbered as they come, the machine is its own least one.
func TestLeastOfTwelve(t *testing.T) {
	for letter := range 3 {
		for _, m := range []impl.Machine{counting(12, letter, 11), upTo(12, letter, 11), counting(12, letter, 0), upTo(12, letter, 1, 11)} {
			if got := leastMade(t, m); !sameMachine(got, m) {
				t.Errorf("%v: LeastOf = %v", m, got)
			}
		}
		back := renumbered(counting(12, letter, 11), []int{0, 11, 10, 9, 8, 7, 6, 5, 4, 3, 2, 1})
		if got := leastMade(t, back); !sameMachine(got, counting(12, letter, 11)) || sameMachine(got, back) {
			t.Errorf("%v: LeastOf = %v", back, got)
		}
	}
}

// Two that tell the same.

func parted(t *testing.T, a, b impl.Machine) (string, bool) {
	t.Helper()
	want, wantSame := wantParting(a, b)
	for _, two := range [][2]impl.Machine{{a, b}, {b, a}} {
		text, same, ok := impl.SameLanguage(two[0], two[1])
		if text != want || same != wantSame || !ok {
			t.Errorf("SameLanguage(%v, %v) = %q, %v, %v; want %q, %v", two[0], two[1], text, same, ok, want, wantSame)
		}
	}
	return want, wantSame
}

func TestSameLanguageTable(t *testing.T) {
	type told struct {
		text string
		same bool
	}
	for texts, want := range map[[2]string]told{
		{"000", "000"}:                       {"", true},
		{"000!", "000!"}:                     {"", true},
		{"000", "000!"}:                      {"", false},
		{"000", "111 000"}:                   {"", true},
		{"000", "000 111!"}:                  {"", true},
		{"000", "100 111!"}:                  {"a", false},
		{"000", "010 111!"}:                  {"b", false},
		{"000", "001 111!"}:                  {"c", false},
		{"000", "111 111!"}:                  {"a", false},
		{"000", "011 111!"}:                  {"b", false},
		{"000!", "100! 111"}:                 {"a", false},
		{"120 120 222! 000!", "010 111!"}:    {"", true},
		{"120 120 222! 000!", "101! 000"}:    {"", false},
		{"100 200 300 333!", "100 200 200!"}: {"aa", false},
		// The shortest one, not the least by bytes of all; of the shortest the least by bytes.
		{"000", "102 111 300 333!"}:         {"ca", false},
		{"000", "120 113 333! 333"}:         {"b", false},
		{"000", "123 300 300 444 555! 555"}: {"ca", false},
		{"000", "231 004 040 440 444!"}:     {"ab", false},
		{"000", "120 300 030 333!"}:         {"aa", false},
		{"000", "210 030 003 333!"}:         {"ac", false},
	} {
		a, b := machine(texts[0]), machine(texts[1])
		text, same, ok := impl.SameLanguage(a, b)
		if text != want.text || same != want.same || !ok {
			t.Errorf("SameLanguage of %q = %q, %v, %v; want %q, %v", texts, text, same, ok, want.text, want.same)
		}
		parted(t, a, b)
	}
}

// Machines of three states each are parted by a text of at most four letters, or by none.
func TestSameLanguageAgainstAllShortTexts(t *testing.T) {
	texts := textsOver("abc", 0, 4)
	r := rand.New(rand.NewSource(7))
	small := smallMachines()
	never, at := 0, map[int]int{}
	for i := range 6000 {
		a, b := small[r.Intn(len(small))], small[r.Intn(258)]
		if i%3 == 0 {
			b = small[r.Intn(len(small))]
		}
		if i%5 == 0 {
			b, _ = impl.LeastOf(a)
		}
		no := slices.IndexFunc(texts, func(s string) bool { return wantTells(a, s) != wantTells(b, s) })
		text, same, ok := impl.SameLanguage(a, b)
		back, sameBack, okBack := impl.SameLanguage(b, a)
		if back != text || sameBack != same || !ok || !okBack {
			t.Errorf("SameLanguage(%v, %v) = %q, %v, %v; the other way %q, %v, %v", a, b, text, same, ok, back, sameBack, okBack)
		}
		switch {
		case no < 0 && (text != "" || !same):
			t.Errorf("SameLanguage(%v, %v) = %q, %v; no text parts them", a, b, text, same)
		case no >= 0 && (text != texts[no] || same):
			t.Errorf("SameLanguage(%v, %v) = %q, %v; want %q", a, b, text, same, texts[no])
		case no < 0:
			never++
		default:
			at[len(text)]++
		}
	}
	if never < 500 || at[0] < 500 || at[1] < 500 || at[2] < 100 {
		t.Error("no test: so many are never parted, so many by so many letters:", never, at)
	}
}

func TestSameLanguageRandomMachines(t *testing.T) {
	r := rand.New(rand.NewSource(8))
	never, late := 0, 0
	for _, a := range randomMachines(8, 2500) {
		text, same := parted(t, a, randomMachine(r, 1+r.Intn(12)))
		if !same && len(text) > 2 {
			late++
		}
		like := randomLike(r, a)
		if _, same := parted(t, a, like); same {
			never++
		}
		// One end of a like one turned: where that state is reached they part there.
		state := r.Intn(len(like.Ends))
		like.Ends[state] = !like.Ends[state]
		if text, same := parted(t, a, like); !same && len(text) > 2 {
			late++
		}
	}
	if never != 2500 || late < 300 {
		t.Error("no test: so many are never parted, so many late:", never, late)
	}
}

// Machines of twelve states each that part only at 22 letters: no two part later.
func TestSameLanguagePartsLate(t *testing.T) {
	for letter := range 3 {
		round := counting(12, letter, 11)
		rest := counting(12, letter, 11)
		rest.Next[11][letter] = 1
		want := strings.Repeat("abc"[letter:letter+1], 22)
		if text, same := parted(t, round, rest); text != want || same {
			t.Errorf("no test: they part at %q, %v", text, same)
		}
		eleven := counting(11, letter, 10)
		if text, same := parted(t, eleven, counting(12, letter, 10)); text != want[:21] || same {
			t.Errorf("no test: they part at %q, %v", text, same)
		}
		for end := range 12 {
			text, same := parted(t, counting(12, letter), counting(12, letter, end))
			if text != want[:end] || same {
				t.Errorf("no test: they part at %q, %v", text, same)
			}
		}
	}
}

// Of the shortest texts the least by bytes is told, not the least of all.
func TestSameLanguageTellsTheLeastText(t *testing.T) {
	none := machine("000")
	for _, s := range textsOver("abc", 0, 4) {
		only := machineOfTexts(s)
		if text, same := parted(t, none, only); text != s || same {
			t.Errorf("%q: they part at %q, %v", s, text, same)
		}
	}
	for texts, want := range map[string]string{
		"b,aa": "b", "ca,bc": "bc", "cc,ccc": "cc", "abc,acb": "abc", "acb,abc,bab": "abc", "aaa,c": "c", "bb,ba,bc": "ba", "cab,cba": "cab", "aab,ab": "ab",
	} {
		if text, same := parted(t, none, machineOfTexts(strings.Split(texts, ",")...)); text != want || same {
			t.Errorf("%s: they part at %q, %v", texts, text, same)
		}
	}
}

// machineOfTexts tells these texts alone; its first state is the empty text, its second one that of all others.
func machineOfTexts(texts ...string) impl.Machine {
	states := []string{"", "none"}
	for _, s := range texts {
		for long := range len(s) {
			if !slices.Contains(states, s[:long+1]) {
				states = append(states, s[:long+1])
			}
		}
	}
	var m impl.Machine
	for _, state := range states {
		var next []int
		for _, letter := range []string{"a", "b", "c"} {
			next = append(next, max(1, slices.Index(states, state+letter)))
		}
		m.Next = append(m.Next, next)
		m.Ends = append(m.Ends, slices.Contains(texts, state))
	}
	return m
}

// A machine tells what it tells itself, in other memory too; turned it parts at once.
func TestSameLanguageOfItself(t *testing.T) {
	for _, m := range append(smallMachines(), randomMachines(9, 500)...) {
		if text, same, ok := impl.SameLanguage(m, m); text != "" || !same || !ok {
			t.Errorf("%v: SameLanguage with itself = %q, %v, %v", m, text, same, ok)
		}
		if text, same, ok := impl.SameLanguage(m, wantTurned(m)); text != "" || same || !ok {
			t.Errorf("%v: SameLanguage with it turned = %q, %v, %v", m, text, same, ok)
		}
	}
}

// SameLanguage tells the same just where both have one least machine.
func TestSameLanguageAndLeastOf(t *testing.T) {
	small := append(append(machinesOf(1, 1), machinesOf(2, 3)...), machinesOf(3, 1999)...)
	both := [2]int{}
	for _, a := range small {
		leastA, _ := impl.LeastOf(a)
		for _, b := range small {
			leastB, _ := impl.LeastOf(b)
			_, same, ok := impl.SameLanguage(a, b)
			if same != sameMachine(leastA, leastB) || !ok {
				t.Errorf("SameLanguage(%v, %v) = %v, %v; LeastOf %v and %v", a, b, same, ok, leastA, leastB)
			}
			if same {
				both[1]++
			} else {
				both[0]++
			}
		}
	}
	if both[0] < 1000 || both[1] < 1000 {
		t.Error("no test: so many are unlike, and alike:", both)
	}
}

// What both tell.

// met holds MeetMachines against the machine of pairs by texts; it tells how many pairs there are.
func met(t *testing.T, a, b impl.Machine) int {
	t.Helper()
	want := wantMet(a, b)
	many := len(want.Ends)
	isRoom := many <= 12
	if !isRoom {
		want = impl.Machine{}
	}
	if got, ok := impl.MeetMachines(a, b); !sameMachine(got, want) || ok != isRoom {
		t.Errorf("MeetMachines(%v, %v) = %v, %v; want %v, %v", a, b, got, ok, want, isRoom)
	}
	return many
}

func TestMeetMachinesTable(t *testing.T) {
	for texts, want := range map[[2]string]string{
		{"000", "000"}:               "000",
		{"000!", "000"}:              "000",
		{"000", "000!"}:              "000",
		{"000!", "000!"}:             "000!",
		{"100! 010", "000!"}:         "100! 010",
		{"100! 010", "000"}:          "100 010",
		{"111! 000", "111 000!"}:     "111 000",
		{"111! 000", "111! 000"}:     "111! 000",
		{"100! 011", "010! 101"}:     "120! 031 302 213",
		{"100! 011!", "010! 101!"}:   "120! 031! 302! 213!",
		{"010 101!", "100 011!"}:     "120 031 302 213!",
		{"111 222 222!", "111 111!"}: "111 222 222!",
		// What tells the same is not made one: they are pairs of their own.
		{"111! 000!", "000!"}:            "111! 000!",
		{"120 120 222! 000!", "000!"}:    "120 120 222!",
		{"210 111! 222", "000!"}:         "120 111 222!",
		{"200 111 222!", "000! 111!"}:    "100 111!",
		{"111 111!", "111 222 000"}:      "111 222 333 111",
		{"111 111!", "111 222! 000!"}:    "111 222! 333! 111",
		{"321 111 222 333!", "111 111!"}: "123 111! 222 333",
	} {
		a, b := machine(texts[0]), machine(texts[1])
		if got, ok := impl.MeetMachines(a, b); !sameMachine(got, machine(want)) || !ok {
			t.Errorf("MeetMachines of %q = %v, %v; want %s", texts, got, ok, want)
		}
		met(t, a, b)
	}
}

func TestMeetMachinesAllShortTexts(t *testing.T) {
	r := rand.New(rand.NewSource(10))
	texts := textsOver("abc", 0, 5)
	small := smallMachines()
	both := 0
	for range 2500 {
		a, b := small[r.Intn(len(small))], small[r.Intn(len(small))]
		met(t, a, b)
		m, ok := impl.MeetMachines(a, b)
		if !ok || !impl.GoodMachine(m) {
			t.Errorf("MeetMachines(%v, %v) = %v, %v", a, b, m, ok)
			continue
		}
		for _, s := range texts {
			want := wantTells(a, s) && wantTells(b, s)
			if got, ok := impl.RunMachine(m, s); got != want || !ok {
				t.Errorf("MeetMachines(%v, %v) = %v tells %v of %q", a, b, m, got, s)
			}
			if want {
				both++
			}
		}
		if all, _ := impl.ReachedOf(m); len(all) != len(m.Ends) {
			t.Errorf("MeetMachines(%v, %v) = %v: %v are reached", a, b, m, all)
		}
	}
	if both < 100000 {
		t.Error("no test: so many texts are told by both:", both)
	}
}

func TestMeetMachinesRandomMachines(t *testing.T) {
	r := rand.New(rand.NewSource(11))
	some, tooMany, exactly := 0, 0, [2]int{}
	for range 3000 {
		a, b := randomMachine(r, 1+r.Intn(5)), randomMachine(r, 1+r.Intn(6))
		switch many := met(t, a, b); {
		case many == 12:
			exactly[0]++
		case many == 13:
			exactly[1]++
		case many > 13:
			tooMany++
		default:
			some++
		}
	}
	for _, a := range randomMachines(11, 60) {
		met(t, a, randomMachine(r, 12))
		// With itself it is what is reached, and with all it is that, too.
		for _, other := range []impl.Machine{a, machine("000!")} {
			all, _ := impl.ReachedOf(a)
			if many := met(t, a, other); many != len(all) {
				t.Errorf("no test: %v has %d pairs", a, many)
			}
		}
	}
	if some < 500 || tooMany < 300 || exactly[0] < 30 || exactly[1] < 30 {
		t.Error("no test: so many have room, have not, have twelve and thirteen pairs:", some, tooMany, exactly)
	}
}

func TestMeetMachinesOfMaxStates(t *testing.T) {
	tail := func(many, letter, to int, ends ...int) impl.Machine {
		m := counting(many, letter, ends...)
		m.Next[many-1][letter] = to
		return m
	}
	for want, l := range map[int][][2]impl.Machine{
		12: {
			{counting(3, 0, 2), counting(4, 0, 3)}, {counting(3, 0, 0), counting(4, 1, 0)}, {counting(12, 2, 5), machine("000!")}, {counting(12, 0, 1), counting(12, 0, 1)},
			{counting(2, 0, 1), counting(6, 2, 5)}, {counting(6, 1, 3), counting(12, 1, 9)}, {tail(4, 0, 2, 3), counting(5, 0, 3)}, {upTo(12, 1, 11), upTo(5, 1, 4)},
		},
		13:  {{tail(4, 0, 1, 3), counting(4, 0, 3)}, {tail(4, 2, 1, 0), counting(4, 2, 0)}, {tail(4, 1, 1), counting(4, 1)}},
		11:  {{tail(6, 0, 1), counting(2, 0)}, {counting(11, 0), machine("000")}},
		14:  {{counting(7, 0), counting(2, 0)}, {counting(7, 0), counting(2, 1)}, {tail(5, 2, 2), counting(4, 2)}},
		24:  {{counting(12, 0, 11), counting(2, 1, 1)}},
		132: {{counting(12, 0, 11), counting(11, 0, 10)}},
		144: {{counting(12, 0, 11), counting(12, 1, 11)}, {counting(12, 2), counting(12, 1)}},
	} {
		for _, two := range l {
			many := len(wantMet(two[0], two[1]).Ends)
			if many != want {
				t.Errorf("no test: %v and %v have %d pairs; want %d", two[0], two[1], many, want)
			}
			met(t, two[0], two[1])
			met(t, two[1], two[0])
		}
	}
}

// As the texts come in one order it is one machine, whichever stands first.
func TestMeetMachinesEitherWay(t *testing.T) {
	r := rand.New(rand.NewSource(12))
	for range 1000 {
		a, b := randomMachine(r, 1+r.Intn(4)), randomMachine(r, 1+r.Intn(4))
		one, okOne := impl.MeetMachines(a, b)
		other, okOther := impl.MeetMachines(b, a)
		if !sameMachine(one, other) || okOne != okOther {
			t.Errorf("MeetMachines(%v, %v) = %v, %v; the other way %v, %v", a, b, one, okOne, other, okOther)
		}
	}
}

// Turned.

func TestTurnMachineTable(t *testing.T) {
	for text, want := range map[string]string{
		"000": "000!", "000!": "000", "120 120 222! 000!": "120! 120! 222 000", "111! 000": "111 000!", "210 111 222": "210! 111! 222!", "210! 111! 222!": "210 111 222",
	} {
		if got, ok := impl.TurnMachine(machine(text)); !sameMachine(got, machine(want)) || !ok {
			t.Errorf("TurnMachine(%s) = %v, %v; want %s", text, got, ok, want)
		}
	}
}

func TestTurnMachineTellsTheOthers(t *testing.T) {
	texts := textsOver("abc", 0, 4)
	for _, m := range append(smallMachines(), randomMachines(13, 600)...) {
		turned, ok := impl.TurnMachine(m)
		if !sameMachine(turned, wantTurned(m)) || !ok {
			t.Errorf("TurnMachine(%v) = %v, %v", m, turned, ok)
			continue
		}
		for _, s := range texts {
			one, okOne := impl.RunMachine(m, s)
			other, okOther := impl.RunMachine(turned, s)
			if one == other || !okOne || !okOther {
				t.Errorf("%v: %v and turned %v of %q", m, one, other, s)
			}
		}
		if again, ok := impl.TurnMachine(turned); !sameMachine(again, m) || !ok {
			t.Errorf("TurnMachine(%v) twice = %v, %v", m, again, ok)
		}
		// It has the same classes; what it meets of the machine tells nothing.
		classes, rounds, _ := impl.ClassesOf(m)
		if got, gotRounds, ok := impl.ClassesOf(turned); !slices.Equal(got, classes) || gotRounds != rounds || !ok {
			t.Errorf("%v: ClassesOf = %v, %d; turned %v, %d", m, classes, rounds, got, gotRounds)
		}
		nothing, ok := impl.MeetMachines(m, turned)
		if least, okLeast := impl.LeastOf(nothing); !sameMachine(least, machine("000")) || !ok || !okLeast {
			t.Errorf("%v: what it meets of it turned = %v, %v", m, nothing, ok)
		}
	}
}
