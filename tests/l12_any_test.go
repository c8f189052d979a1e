package tests

import (
	"math"
	"slices"
	"strconv"
	"strings"
	"sync"
	"testing"

	"loop.example/g00333/impl"
)

func anyMachines() map[string]impl.Machine {
	l := wrongMachines()
	for name, m := range goodMachines() {
		l[name] = m
	}
	for i, m := range append(machinesOf(2, 17), randomMachines(14, 60)...) {
		l["machine "+strconv.Itoa(i)] = m
	}
	for _, n := range anyNumbers() {
		name := strconv.Itoa(n)
		l["to "+name] = impl.Machine{Next: [][]int{{n, n, n}}, Ends: []bool{true}}
		l["at last to "+name] = impl.Machine{Next: [][]int{{0, 0, 0}, {1, 1, n}}, Ends: []bool{false, true}}
	}
	l["nil and long"] = impl.Machine{Ends: make([]bool, 1<<16)}
	l["long and nil"] = impl.Machine{Next: make([][]int, 1<<16)}
	l["both long"] = impl.Machine{Next: make([][]int, 1<<16), Ends: make([]bool, 1<<16)}
	l["a long list"] = impl.Machine{Next: [][]int{make([]int, 1<<16)}, Ends: []bool{true}}
	return l
}

func anyLetters() []string {
	l := anySearched()
	for _, long := range []int{59, 60, 61} {
		l = append(l, strings.Repeat("a", long), strings.Repeat("abc", long)[:long], strings.Repeat("c", long-1)+"d", "\x00"+strings.Repeat("b", long-1))
	}
	return append(l, "abc", "cab", "d", "`", "aä", "a b")
}

// machineMemory is a machine's own lists with all that lies behind their length.
type machineMemory struct {
	next [][]int
	ends []bool
	rows [][]int
}

// behindMachine lays states behind each list's length that would change each answer, wrong ones too.
func behindMachine(m impl.Machine) (impl.Machine, machineMemory) {
	var memory machineMemory
	for _, next := range m.Next {
		row := append(slices.Clone(next), 0, -1, math.MaxInt)
		memory.rows = append(memory.rows, row)
		memory.next = append(memory.next, row[:len(next)])
	}
	memory.next = append(memory.next, []int{0, 0, 0}, nil, []int{-1, 99, 0, 0})
	memory.ends = append(slices.Clone(m.Ends), true, false, true)
	return impl.Machine{Next: memory.next[:len(m.Next)], Ends: memory.ends[:len(m.Ends)]}, memory
}

func (m machineMemory) copied() machineMemory {
	c := machineMemory{ends: slices.Clone(m.ends)}
	for _, next := range m.next {
		c.next = append(c.next, slices.Clone(next))
	}
	for _, row := range m.rows {
		c.rows = append(c.rows, slices.Clone(row))
	}
	return c
}

func (m machineMemory) isSame(other machineMemory) bool {
	sameLists := func(a, b [][]int) bool { return slices.EqualFunc(a, b, slices.Equal[[]int]) }
	return sameLists(m.next, other.next) && sameLists(m.rows, other.rows) && slices.Equal(m.ends, other.ends)
}

// A panic in any of these fails the test by itself.
func TestMachinesAnswerAtAnyMachines(t *testing.T) {
	good := 0
	for name, m := range anyMachines() {
		given, memory := behindMachine(m)
		before := memory.copied()
		isGood := wantGoodMachine(m)
		var all, classes []int
		var least, turned impl.Machine
		rounds := 0
		if isGood {
			good++
			all, least, turned = wantReached(m), wantLeast(m), wantTurned(m)
			classes, rounds = wantClasses(m)
		}
		if got := impl.GoodMachine(given); got != isGood {
			t.Errorf("%s: GoodMachine = %v", name, got)
		}
		if got, ok := impl.ReachedOf(given); !slices.Equal(got, all) || ok != isGood {
			t.Errorf("%s: ReachedOf = %v, %v; want %v, %v", name, got, ok, all, isGood)
		}
		if got, many, ok := impl.ClassesOf(given); !slices.Equal(got, classes) || many != rounds || ok != isGood {
			t.Errorf("%s: ClassesOf = %v, %d, %v; want %v, %d, %v", name, got, many, ok, classes, rounds, isGood)
		}
		if got, ok := impl.LeastOf(given); !sameMachine(got, least) || ok != isGood {
			t.Errorf("%s: LeastOf = %v, %v; want %v, %v", name, got, ok, least, isGood)
		}
		if got, ok := impl.TurnMachine(given); !sameMachine(got, turned) || ok != isGood {
			t.Errorf("%s: TurnMachine = %v, %v; want %v, %v", name, got, ok, turned, isGood)
		}
		for _, s := range anyLetters() {
			okWant := isGood && wantGoodLetters(s)
			want := okWant && wantTells(m, s)
			if got, ok := impl.RunMachine(given, s); got != want || ok != okWant {
				t.Errorf("%s: RunMachine(%.70q) = %v, %v; want %v, %v", name, s, got, ok, want, okWant)
			}
		}
		if !memory.isSame(before) {
			t.Fatalf("%s: it was written into", name)
		}
	}
	if good < 80 {
		t.Error("too few are good:", good)
	}
}

func TestTwoMachinesAnswerAtAnyMachines(t *testing.T) {
	type side struct {
		name           string
		given          impl.Machine
		memory, before machineMemory
		isGood         bool
	}
	var sides []side
	for name, m := range anyMachines() {
		// Of the wrong ones by a place there are many; some of them are enough here.
		if !strings.HasPrefix(name, "of ") || strings.HasSuffix(name, " to -1") || strings.HasSuffix(name, "2 ways") {
			given, memory := behindMachine(m)
			sides = append(sides, side{name, given, memory, memory.copied(), wantGoodMachine(m)})
		}
	}
	good, room := 0, 0
	for _, a := range sides {
		for _, b := range sides {
			okWant := a.isGood && b.isGood
			text, same := "", false
			var both impl.Machine
			if okWant {
				good++
				text, same = wantParting(a.given, b.given)
				both = wantMet(a.given, b.given)
			}
			if got, is, ok := impl.SameLanguage(a.given, b.given); got != text || is != same || ok != okWant {
				t.Errorf("%s, %s: SameLanguage = %q, %v, %v; want %q, %v, %v", a.name, b.name, got, is, ok, text, same, okWant)
			}
			if okWant = okWant && len(both.Ends) <= 12; okWant {
				room++
			} else {
				both = impl.Machine{}
			}
			if got, ok := impl.MeetMachines(a.given, b.given); !sameMachine(got, both) || ok != okWant {
				t.Errorf("%s, %s: MeetMachines = %v, %v; want %v, %v", a.name, b.name, got, ok, both, okWant)
			}
		}
	}
	for _, x := range sides {
		if !x.memory.isSame(x.before) {
			t.Errorf("%s: it was written into", x.name)
		}
	}
	if good < 5000 || room < 1000 {
		t.Error("too few are good, or have room:", good, room)
	}
}

// What lies behind a list's length is no part of it.
func TestMachinesDoNotReadBehindTheLength(t *testing.T) {
	whole := counting(13, 0, 12)
	for many := range 13 {
		m := impl.Machine{Next: whole.Next[:many], Ends: whole.Ends[:many]}
		if impl.GoodMachine(m) {
			t.Errorf("the first %d of a machine that goes on behind are good", many)
		}
	}
	rows := []int{0, 1, 0, 1, 1, 0, 0, 0}
	for from := range 3 {
		for many := range 5 {
			m := impl.Machine{Next: [][]int{rows[from : from+many], {0, 1, 0}}, Ends: []bool{false, true}}
			if got := impl.GoodMachine(m); got != (many == 3) {
				t.Errorf("a list of %d of eight: GoodMachine = %v", many, got)
			}
		}
	}
	for many, want := range []bool{false, false, true, false, false} {
		m := impl.Machine{Next: [][]int{{0, 1, 0}, {1, 1, 1}}, Ends: []bool{false, true, true, false, true}[:many]}
		if got := impl.GoodMachine(m); got != want {
			t.Errorf("the first %d of five Ends: GoodMachine = %v", many, got)
		}
	}
}

func spoilBools(l []bool) {
	whole := l[:cap(l)]
	for i := range whole {
		whole[i] = !whole[i]
	}
}

// spoilMachine writes over all that an answer hands out, and behind it.
func spoilMachine(m impl.Machine) {
	for _, next := range m.Next {
		spoilInts(next)
	}
	whole := m.Next[:cap(m.Next)]
	for i := range whole {
		whole[i] = []int{77, 77, 77}
	}
	spoilBools(m.Ends)
}

// makers are the functions that hand out a machine, made of one or of two.
func makers() map[string]func(m impl.Machine) impl.Machine {
	return map[string]func(m impl.Machine) impl.Machine{
		"LeastOf":     func(m impl.Machine) impl.Machine { made, _ := impl.LeastOf(m); return made },
		"TurnMachine": func(m impl.Machine) impl.Machine { made, _ := impl.TurnMachine(m); return made },
		"MeetMachines with itself": func(m impl.Machine) impl.Machine {
			made, _ := impl.MeetMachines(m, m)
			return made
		},
		"MeetMachines with all": func(m impl.Machine) impl.Machine {
			made, _ := impl.MeetMachines(m, machine("000!"))
			return made
		},
		"MeetMachines as the second": func(m impl.Machine) impl.Machine {
			made, _ := impl.MeetMachines(machine("111! 000!"), m)
			return made
		},
	}
}

func TestMadeMachinesAreNewMemory(t *testing.T) {
	for _, m := range append(machinesOf(2, 5), machine("000"), machine("111! 222! 000"), counting(12, 0, 11), upTo(12, 1, 3, 11), counting(6, 2, 1)) {
		given, memory := behindMachine(m)
		before := memory.copied()
		for name, maker := range makers() {
			first, want := maker(given), copyOfMachine(maker(given))
			second := maker(given)
			spoilMachine(first)
			if !sameMachine(second, want) {
				t.Errorf("%v: two answers of %s share memory: %v", m, name, second)
			}
			// No two lists of one answer share any, neither with those ahead nor with those behind.
			for at := range want.Next {
				made := maker(given)
				spoilInts(append(made.Next[at], 78))
				spoilInts(made.Next[at])
				made.Next[at] = want.Next[at]
				if !sameMachine(made, want) {
					t.Errorf("%v: %s: the Next of state %d shares memory with others: %v", m, name, at, made)
				}
			}
			if !memory.isSame(before) {
				t.Fatalf("%v: %s hands out the machine's memory", m, name)
			}
		}
	}
}

func TestListsOfMachinesAreNewMemory(t *testing.T) {
	for _, m := range append(machinesOf(2, 5), machine("000"), machine("210 111! 222"), counting(12, 0, 11), upTo(12, 1, 3, 11)) {
		given, memory := behindMachine(m)
		before := memory.copied()
		first, _ := impl.ReachedOf(given)
		second, ok := impl.ReachedOf(given)
		spoilInts(first)
		if !slices.Equal(second, wantReached(m)) || !ok {
			t.Errorf("%v: two answers of ReachedOf share memory: %v, %v", m, second, ok)
		}
		want, _ := wantClasses(m)
		firstClasses, _, _ := impl.ClassesOf(given)
		secondClasses, _, ok := impl.ClassesOf(given)
		spoilInts(firstClasses)
		if !slices.Equal(secondClasses, want) || !ok {
			t.Errorf("%v: two answers of ClassesOf share memory: %v, %v", m, secondClasses, ok)
		}
		if !memory.isSame(before) {
			t.Fatalf("%v: it was written into", m)
		}
	}
}

// States may share their list of Next.
func TestMachinesOfOneMemory(t *testing.T) {
	rows := []int{1, 0, 1, 0, 1}
	m := impl.Machine{Next: [][]int{rows[:3], rows[1:4], rows[2:5], rows[:3]}, Ends: []bool{false, true, false, true}}
	apart := machine("101 010! 101 101!")
	if !sameMachine(m, apart) {
		t.Error("no test: the machine:", m)
	}
	for name, maker := range makers() {
		got, want := maker(m), maker(apart)
		if !sameMachine(got, want) {
			t.Errorf("%s = %v; want %v", name, got, want)
		}
		for at := range got.Next {
			made := maker(m)
			spoilInts(made.Next[at])
			made.Next[at] = want.Next[at]
			if !sameMachine(made, want) {
				t.Errorf("%s: the Next of state %d shares memory with others: %v", name, at, made)
			}
		}
	}
	if !slices.Equal(rows, []int{1, 0, 1, 0, 1}) {
		t.Error("the lists were written into:", rows)
	}
}

func TestMachinesAnswerTheSameFromManySides(t *testing.T) {
	m, n := machine("120 120 222! 000!"), counting(3, 1, 2)
	wantBoth := wantMet(m, n)
	var joined sync.WaitGroup
	for i := range 16 {
		joined.Go(func() {
			for range 100 {
				is, okRun := impl.RunMachine(m, "acb")
				all, okAll := impl.ReachedOf(m)
				classes, rounds, okClasses := impl.ClassesOf(m)
				least, okLeast := impl.LeastOf(m)
				text, same, okSame := impl.SameLanguage(m, n)
				both, okBoth := impl.MeetMachines(m, n)
				turned, okTurned := impl.TurnMachine(m)
				if !is || !slices.Equal(all, []int{0, 1, 2}) || !slices.Equal(classes, []int{0, 0, 2, 3}) || rounds != 1 || !impl.GoodMachine(m) || !okRun || !okAll || !okClasses {
					t.Errorf("%d: %v, %v, %v, %d", i, is, all, classes, rounds)
				}
				if !sameMachine(least, machine("010 111!")) || text != "b" || same || !sameMachine(both, wantBoth) || !sameMachine(turned, machine("120! 120! 222 000")) || !okLeast || !okSame || !okBoth || !okTurned {
					t.Errorf("%d: %v, %q, %v, %v, %v", i, least, text, same, both, turned)
				}
			}
		})
	}
	joined.Wait()
}
