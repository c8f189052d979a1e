package tests

import (
	"math"
	"math/rand"
	"slices"
	"strconv"
	"strings"
	"sync"
	"testing"

	"loop.example/g00333/impl"
)

// anyLogs is good ones and such as are too long, or have too long texts.
func anyLogs() map[string][]string {
	l := map[string][]string{"nil": nil, "empty": {}, "very many": make([]string, 1<<16), "very many long ones": slices.Repeat(anyTexts(), 1<<10)}
	for _, many := range []int{1, 2, 3, 5, 8, 31, 32, 33, 39, 40, 41, 42, 64, 80} {
		l["entries "+strconv.Itoa(many)] = entries(many)
		l["empty texts "+strconv.Itoa(many)] = make([]string, many)
	}
	for i, s := range append(anyTexts(), strings.Repeat("x", 20), strings.Repeat("x", 21)) {
		name := "text " + strconv.Itoa(i)
		l[name] = []string{s}
		l[name+" first"] = append([]string{s}, entries(6)...)
		l[name+" last"] = append(entries(39), s)
	}
	r := rand.New(rand.NewSource(18))
	for i := range 12 {
		l["random ones, "+strconv.Itoa(i)] = randomLog(r, r.Intn(42))
	}
	return l
}

func anyPlaces() []int {
	return append(anyNumbers(), 2, 3, 4, 5, 7, 8, 9, 15, 16, 17, 31, 32, 33)
}

func anySums() []int {
	return append(append(anyNumbers(), wrongSums()...), 7, 1939, 287000, sumsEnd-2, sumsEnd-1)
}

func anyProofs() map[string][]int {
	l := map[string][]int{"nil": nil, "empty": {}, "very many": make([]int, 1<<16)}
	for _, n := range anySums() {
		name := strconv.Itoa(n)
		for many := 1; many <= 8; many++ {
			l[name+" of "+strconv.Itoa(many)] = slices.Repeat([]int{n}, many)
		}
		l[name+" first"], l[name+" last"] = []int{n, 1, 2}, []int{1, 2, n}
	}
	return l
}

// behindSums lays sums behind a list's length that would be asked for, and wrong ones.
func behindSums(sums []int) ([]int, []int) {
	memory := append(slices.Clone(sums), 7, 1939, -1, sumsEnd, math.MaxInt, 3, 3, 3)
	return memory[:len(sums)], memory
}

// behindLog lays texts behind a log's length that would change each answer, a wrong one too.
func behindLog(l []string) ([]string, []string) {
	memory := append(slices.Clone(l), "", "a", strings.Repeat("x", 21), "b")
	return memory[:len(l)], memory
}

// A panic in any of these fails the test by itself.
func TestLogsAnswerAtAnyLogs(t *testing.T) {
	good := 0
	for name, l := range anyLogs() {
		given, memory := behindLog(l)
		before := slices.Clone(memory)
		isLog := wantIsLog(l)
		root := 0
		if isLog {
			root = wantRoot(l)
		}
		if got, ok := impl.RootOf(given); got != root || ok != isLog {
			t.Errorf("%s: RootOf = %d, %v; want %d, %v", name, got, ok, root, isLog)
		}
		for _, n := range anyPlaces() {
			var in, grew []int
			okIn, okGrew := isLog && n >= 0 && n < len(l), isLog && n >= 1 && n <= len(l)
			if okIn {
				in = wantProofIn(l, n)
				good++
			}
			if okGrew {
				grew = wantProofGrew(l, n)
				good++
			}
			if got, ok := impl.ProveIn(given, n); !slices.Equal(got.Sums, in) || ok != okIn {
				t.Errorf("%s: ProveIn(%d) = %v, %v; want %v, %v", name, n, got, ok, in, okIn)
			}
			if got, ok := impl.ProveGrew(given, n); !slices.Equal(got.Sums, grew) || ok != okGrew {
				t.Errorf("%s: ProveGrew(%d) = %v, %v; want %v, %v", name, n, got, ok, grew, okGrew)
			}
		}
		if !slices.Equal(memory, before) {
			t.Fatalf("%s: it was written into", name)
		}
	}
	if good < 300 {
		t.Error("too few are good:", good)
	}
}

func TestSumsAnswerAtAnyNumbersAndTexts(t *testing.T) {
	for _, a := range anySums() {
		split, okSplit := 0, a >= 2 && a <= 40
		if okSplit {
			for split = 1; 2*split < a; split *= 2 {
			}
		}
		if got, ok := impl.SplitAt(a); got != split || ok != okSplit {
			t.Errorf("SplitAt(%d) = %d, %v; want %d, %v", a, got, ok, split, okSplit)
		}
		for _, b := range anySums() {
			sum, okSum := 0, wantAreSums(a, b)
			if okSum {
				sum = wantNode(a, b)
			}
			if got, ok := impl.NodeSum(a, b); got != sum || ok != okSum {
				t.Errorf("NodeSum(%d, %d) = %d, %v; want %d, %v", a, b, got, ok, sum, okSum)
			}
		}
	}
	for _, s := range anySearched() {
		if got, want := impl.LeafSum(s), wantLeaf(s); got != want {
			t.Errorf("LeafSum(%.60q) = %d; want %d", s, got, want)
		}
	}
}

func TestCheckInAnswersAtAnyArguments(t *testing.T) {
	texts := []string{"", "a", "\x00", strings.Repeat("x", 20), strings.Repeat("x", 21), strings.Repeat("a", 1<<16)}
	roots := anySums()
	good := 0
	for name, sums := range anyProofs() {
		given, memory := behindSums(sums)
		before := slices.Clone(memory)
		for _, many := range anyPlaces() {
			for _, k := range anyPlaces() {
				for i, s := range texts {
					root := roots[uint(many+k+i)%uint(len(roots))]
					isWant, okWant := wantCheckIn(root, many, k, s, impl.Proof{Sums: sums})
					if okWant {
						good++
					}
					if is, ok := impl.CheckIn(root, many, k, s, impl.Proof{Sums: given}); is != isWant || ok != okWant {
						t.Errorf("CheckIn(%d, %d, %d, %.30q, %s) = %v, %v; want %v, %v", root, many, k, s, name, is, ok, isWant, okWant)
					}
				}
			}
		}
		if !slices.Equal(memory, before) {
			t.Fatalf("%s: it was written into", name)
		}
	}
	if good < 1000 {
		t.Error("too few are good:", good)
	}
}

func TestCheckGrewAnswersAtAnyArguments(t *testing.T) {
	good := 0
	for name, sums := range anyProofs() {
		given, memory := behindSums(sums)
		before := slices.Clone(memory)
		for _, many := range anyPlaces() {
			for _, old := range anyPlaces() {
				for _, roots := range [][2]int{{7, 7}, {0, sumsEnd - 1}, {-1, 7}, {7, sumsEnd}, {math.MinInt, math.MinInt}, {math.MaxInt, 0}} {
					isWant, okWant := wantCheckGrew(roots[0], old, roots[1], many, impl.Proof{Sums: sums})
					if okWant {
						good++
					}
					if is, ok := impl.CheckGrew(roots[0], old, roots[1], many, impl.Proof{Sums: given}); is != isWant || ok != okWant {
						t.Errorf("CheckGrew(%d, %d, %d, %d, %s) = %v, %v; want %v, %v", roots[0], old, roots[1], many, name, is, ok, isWant, okWant)
					}
				}
			}
		}
		if !slices.Equal(memory, before) {
			t.Fatalf("%s: it was written into", name)
		}
	}
	if good < 1000 {
		t.Error("too few are good:", good)
	}
}

// What lies behind a list's length is no part of it.
func TestLogsDoNotReadBehindTheLength(t *testing.T) {
	whole := entries(41)
	for many := range 41 {
		if got, ok := impl.RootOf(whole[:many]); got != wantRoot(entries(many)) || !ok {
			t.Errorf("RootOf the first %d of 41 = %d, %v", many, got, ok)
		}
		if got, ok := impl.ProveIn(whole[:many], many); got.Sums != nil || ok {
			t.Errorf("ProveIn of the first %d of 41, at %d = %v, %v", many, many, got, ok)
		}
		if got, ok := impl.ProveGrew(whole[:many], many+1); got.Sums != nil || ok {
			t.Errorf("ProveGrew of the first %d of 41, %d = %v, %v", many, many+1, got, ok)
		}
	}
	in, grew := wantProofIn(entries(40), 5), wantProofGrew(entries(40), 5)
	root, oldRoot := wantRoot(entries(40)), wantRoot(entries(5))
	for many := range len(in) {
		if is, ok := impl.CheckIn(root, 40, 5, "entry 5", impl.Proof{Sums: in[:many]}); is || ok {
			t.Errorf("CheckIn with the first %d of %d sums = %v, %v", many, len(in), is, ok)
		}
	}
	for many := range len(grew) {
		if is, ok := impl.CheckGrew(oldRoot, 5, root, 40, impl.Proof{Sums: grew[:many]}); is || ok {
			t.Errorf("CheckGrew with the first %d of %d sums = %v, %v", many, len(grew), is, ok)
		}
	}
}

func TestProofsAreNewMemory(t *testing.T) {
	for _, many := range []int{1, 2, 3, 5, 7, 8, 33, 40} {
		given, memory := behindLog(entries(many))
		before := slices.Clone(memory)
		for n := 1; n <= many; n++ {
			for name, prove := range map[string]func() impl.Proof{
				"ProveIn":   func() impl.Proof { p, _ := impl.ProveIn(given, n-1); return p },
				"ProveGrew": func() impl.Proof { p, _ := impl.ProveGrew(given, n); return p },
			} {
				first, second := prove(), prove()
				want := slices.Clone(second.Sums)
				spoilInts(append(first.Sums, 78))
				spoilInts(first.Sums)
				if !slices.Equal(second.Sums, want) || !slices.Equal(prove().Sums, want) {
					t.Errorf("of %d texts, %d: two answers of %s share memory: %v", many, n, name, second)
				}
			}
		}
		if !slices.Equal(memory, before) {
			t.Errorf("of %d texts: they were written into", many)
		}
	}
}

func TestLogsAnswerTheSameFromManySides(t *testing.T) {
	l, sums := byHand()
	in := impl.Proof{Sums: []int{sums["d"], sums["ab"], sums["e"]}}
	grew := impl.Proof{Sums: []int{sums["c"], sums["d"], sums["ab"], sums["e"]}}
	var joined sync.WaitGroup
	for i := range 16 {
		joined.Go(func() {
			for range 100 {
				sum, okSum := impl.NodeSum(impl.LeafSum("a"), impl.LeafSum("b"))
				root, okRoot := impl.RootOf(l)
				split, okSplit := impl.SplitAt(5)
				if sum != sums["ab"] || root != sums["abcde"] || split != 4 || !okSum || !okRoot || !okSplit {
					t.Errorf("%d: %d, %d, %d", i, sum, root, split)
				}
				p, okProve := impl.ProveIn(l, 2)
				is, okIs := impl.CheckIn(root, 5, 2, "c", in)
				q, okGrew := impl.ProveGrew(l, 3)
				has, okHas := impl.CheckGrew(sums["abc"], 3, root, 5, grew)
				if !slices.Equal(p.Sums, in.Sums) || !slices.Equal(q.Sums, grew.Sums) || !is || !has || !okProve || !okIs || !okGrew || !okHas {
					t.Errorf("%d: %v, %v, %v, %v", i, p, q, is, has)
				}
			}
		})
	}
	joined.Wait()
}
