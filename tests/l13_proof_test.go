package tests

import (
	"math"
	"math/rand"
	"slices"
	"strings"
	"testing"

	"loop.example/g00333/impl"
)

func wrongSums() []int {
	return []int{-1, -2, sumsEnd, sumsEnd + 1, 2 * sumsEnd, -sumsEnd, math.MinInt, math.MinInt + 1, math.MaxInt, math.MaxInt - 1}
}

func TestLeafSum(t *testing.T) {
	allBytes := ""
	for b := range 256 {
		allBytes += string([]byte{byte(b)})
	}
	for s, want := range map[string]int{
		"":     7,
		"\x00": 263*7 + 1, "\x01": 263*7 + 2, "a": 263*7 + 98, "\xff": 263*7 + 256,
		"\x00\x00": 263*(263*7+1) + 1, "ab": 263*(263*7+98) + 99, "ba": 263*(263*7+99) + 98,
		"abc":          263*510056 + 100 - 134*sumsEnd,
		"entry":        619804,
		textOfSum0:     0,
		textOfSum1:     1,
		"aaaa":         wantLeaf(textJede),
		"x1":           516056,
		allBytes:       236789,
		"ä":            wantLeaf("\xc3\xa4"),
		" a":           wantLeaf("\x20\x61"),
		"\xff\xfe\xfd": wantLeaf(allBytes[255:] + allBytes[254:255] + allBytes[253:254]),

		textOfSum1000002:          1000002,
		strings.Repeat("a", 20):   33789,
		strings.Repeat("a", 21):   886581,
		strings.Repeat("a", 1000): 143440,
	} {
		if got := impl.LeafSum(s); got != want {
			t.Errorf("LeafSum(%.30q) = %d; want %d", s, got, want)
		}
	}
	if textAaaa == textJede || impl.LeafSum(textAaaa) != impl.LeafSum(textJede) {
		t.Error("two texts of one sum:", impl.LeafSum(textAaaa), impl.LeafSum(textJede))
	}
}

func TestLeafSumOfAllShortTexts(t *testing.T) {
	for one := range 256 {
		s := string([]byte{byte(one)})
		if got, want := impl.LeafSum(s), 263*7+one+1; got != want {
			t.Errorf("LeafSum(%q) = %d; want %d", s, got, want)
		}
		for other := range 256 {
			two := s + string([]byte{byte(other)})
			if got, want := impl.LeafSum(two), (263*(263*7+one+1)+other+1)%sumsEnd; got != want {
				t.Errorf("LeafSum(%q) = %d; want %d", two, got, want)
			}
		}
	}
	r := rand.New(rand.NewSource(13))
	for long := range 600 {
		text := make([]byte, long)
		r.Read(text)
		if got, want := impl.LeafSum(string(text)), wantLeaf(string(text)); got != want {
			t.Errorf("LeafSum(%q) = %d; want %d", text, got, want)
		}
	}
}

func TestNodeSum(t *testing.T) {
	for _, row := range [][3]int{
		{0, 0, 11}, {1, 0, 142}, {0, 1, 28}, {1, 1, 159}, {7, 7, 1047},
		{1939, 1940, 131*1939 + 17*1940 + 11}, {1940, 1939, 287114},
		{7633, 0, 999934}, {7634, 0, 62}, {0, 58823, 1000002}, {0, 58824, 16},
		{1000002, 0, 999883}, {0, 1000002, 999997}, {1000002, 1000002, 999866},
	} {
		if got, ok := impl.NodeSum(row[0], row[1]); got != row[2] || !ok {
			t.Errorf("NodeSum(%d, %d) = %d, %v; want %d, true", row[0], row[1], got, ok, row[2])
		}
	}
	good := []int{0, 1, 2, 7, 500000, sumsEnd - 2, sumsEnd - 1}
	r := rand.New(rand.NewSource(14))
	for range 200 {
		good = append(good, r.Intn(sumsEnd))
	}
	for _, a := range good {
		for _, b := range good {
			if got, ok := impl.NodeSum(a, b); got != wantNode(a, b) || !ok {
				t.Errorf("NodeSum(%d, %d) = %d, %v; want %d, true", a, b, got, ok, wantNode(a, b))
			}
		}
		for _, wrong := range wrongSums() {
			if got, ok := impl.NodeSum(a, wrong); got != 0 || ok {
				t.Errorf("NodeSum(%d, %d) = %d, %v", a, wrong, got, ok)
			}
			if got, ok := impl.NodeSum(wrong, a); got != 0 || ok {
				t.Errorf("NodeSum(%d, %d) = %d, %v", wrong, a, got, ok)
			}
		}
	}
	for _, a := range wrongSums() {
		for _, b := range wrongSums() {
			if got, ok := impl.NodeSum(a, b); got != 0 || ok {
				t.Errorf("NodeSum(%d, %d) = %d, %v", a, b, got, ok)
			}
		}
	}
}

func TestSplitAt(t *testing.T) {
	for n, want := range map[int]int{2: 1, 3: 2, 4: 2, 5: 4, 8: 4, 9: 8, 16: 8, 17: 16, 31: 16, 32: 16, 33: 32, impl.MaxLog: 32} {
		if got, ok := impl.SplitAt(n); got != want || !ok {
			t.Errorf("SplitAt(%d) = %d, %v; want %d, true", n, got, ok, want)
		}
	}
	for n := 2; n <= 40; n++ {
		want := 0
		for _, power := range []int{1, 2, 4, 8, 16, 32, 64, 128} {
			if power < n {
				want = power
			}
		}
		if got, ok := impl.SplitAt(n); got != want || !ok {
			t.Errorf("SplitAt(%d) = %d, %v; want %d, true", n, got, ok, want)
		}
	}
	for _, n := range []int{1, 0, -1, -2, 41, 42, 64, 1 << 32, math.MinInt, math.MinInt + 1, math.MaxInt - 1, math.MaxInt} {
		if got, ok := impl.SplitAt(n); got != 0 || ok {
			t.Errorf("SplitAt(%d) = %d, %v", n, got, ok)
		}
	}
}

// byHand is five texts and the sums of all that they make.
func byHand() ([]string, map[string]int) {
	sums := map[string]int{"a": 1939, "b": 1940, "c": 1941, "d": 1942, "e": 1943}
	join := func(one, other string) {
		sums[one+other] = (131*sums[one] + 17*sums[other] + 11) % 1000003
	}
	join("a", "b")
	join("c", "d")
	join("ab", "c")
	join("ab", "cd")
	join("abcd", "e")
	return []string{"a", "b", "c", "d", "e"}, sums
}

func TestRootOf(t *testing.T) {
	l, sums := byHand()
	for many, name := range []string{"", "a", "ab", "abc", "abcd", "abcde"} {
		want := sums[name]
		if many == 0 {
			want = 1
		}
		if got, ok := impl.RootOf(l[:many]); got != want || !ok {
			t.Errorf("RootOf(%q) = %d, %v; want %d, true", l[:many], got, ok, want)
		}
	}
	if sums["ab"] != 287000 || sums["abc"] != 629897 || sums["abcd"] != 480917 {
		t.Error("no test: the sums:", sums)
	}
	for _, row := range []struct {
		l    []string
		want int
	}{
		{nil, 1}, {[]string{}, 1}, {[]string{""}, 7}, {[]string{"b", "a"}, 287114},
		{[]string{"a", "b", "entry", "", "x1"}, 473203},
		{[]string{textOfSum0}, 0}, {[]string{textOfSum1}, 1}, {[]string{textOfSum1000002}, 1000002},
		{[]string{textOfSum0, textOfSum0}, 11}, {[]string{textOfSum1000002, textOfSum0}, 999883},
	} {
		if got, ok := impl.RootOf(row.l); got != row.want || !ok {
			t.Errorf("RootOf(%q) = %d, %v; want %d, true", row.l, got, ok, row.want)
		}
	}
}

func TestRootOfEachLength(t *testing.T) {
	r := rand.New(rand.NewSource(15))
	for many := range 41 {
		logs := [][]string{entries(many), make([]string, many), slices.Repeat([]string{strings.Repeat("\xff", 20)}, many)}
		for range 30 {
			logs = append(logs, randomLog(r, many))
		}
		for _, l := range logs {
			if got, ok := impl.RootOf(l); got != wantRoot(l) || !ok {
				t.Errorf("RootOf(%q) = %d, %v; want %d, true", l, got, ok, wantRoot(l))
			}
		}
		for at := range many {
			l := entries(many)
			l[at] = strings.Repeat("x", 20)
			if got, ok := impl.RootOf(l); got != wantRoot(l) || !ok {
				t.Errorf("RootOf(%q) = %d, %v; want %d, true", l, got, ok, wantRoot(l))
			}
			l[at] += "x"
			if got, ok := impl.RootOf(l); got != 0 || ok {
				t.Errorf("RootOf(%q) = %d, %v", l, got, ok)
			}
		}
	}
	for _, many := range []int{41, 42, 64, 1 << 16} {
		for _, l := range [][]string{entries(many), make([]string, many)} {
			if got, ok := impl.RootOf(l); got != 0 || ok {
				t.Errorf("RootOf of %d texts = %d, %v", many, got, ok)
			}
		}
	}
}

func TestProveInByHand(t *testing.T) {
	l, sums := byHand()
	for _, row := range []struct {
		many, k int
		want    string
	}{
		{1, 0, ""},
		{2, 0, "b"}, {2, 1, "a"},
		{3, 0, "b c"}, {3, 1, "a c"}, {3, 2, "ab"},
		{4, 0, "b cd"}, {4, 1, "a cd"}, {4, 2, "d ab"}, {4, 3, "c ab"},
		{5, 0, "b cd e"}, {5, 1, "a cd e"}, {5, 2, "d ab e"}, {5, 3, "c ab e"}, {5, 4, "abcd"},
	} {
		var want []int
		for _, name := range strings.Fields(row.want) {
			want = append(want, sums[name])
		}
		if got, ok := impl.ProveIn(l[:row.many], row.k); !slices.Equal(got.Sums, want) || !ok {
			t.Errorf("ProveIn(%q, %d) = %v, %v; want %v, true", l[:row.many], row.k, got, ok, want)
		}
	}
}

func TestProveInIsWrong(t *testing.T) {
	for many := range 43 {
		for _, k := range []int{math.MinInt, -many, -1, many, many + 1, 41, math.MaxInt} {
			if got, ok := impl.ProveIn(entries(many), k); got.Sums != nil || ok {
				t.Errorf("ProveIn of %d texts, %d = %v, %v", many, k, got, ok)
			}
		}
	}
	for _, k := range []int{0, 1, 39, 40} {
		if got, ok := impl.ProveIn(entries(41), k); got.Sums != nil || ok {
			t.Errorf("ProveIn of 41 texts, %d = %v, %v", k, got, ok)
		}
		for at := range 40 {
			l := entries(40)
			l[at] = strings.Repeat("x", 21)
			if got, ok := impl.ProveIn(l, min(k, 39)); got.Sums != nil || ok {
				t.Errorf("ProveIn, text %d has 21 bytes, %d = %v, %v", at, k, got, ok)
			}
		}
	}
}

// Promise 13, that a text is in.
func TestEachTextIsIn(t *testing.T) {
	r := rand.New(rand.NewSource(16))
	for many := 1; many <= 40; many++ {
		for _, l := range [][]string{entries(many), randomLog(r, many), randomLog(r, many), slices.Repeat([]string{"one"}, many)} {
			root := wantRoot(l)
			for k, s := range l {
				want := wantProofIn(l, k)
				p, ok := impl.ProveIn(l, k)
				if !slices.Equal(p.Sums, want) || !ok {
					t.Errorf("ProveIn(%q, %d) = %v, %v; want %v, true", l, k, p, ok, want)
				}
				if is, ok := impl.CheckIn(root, many, k, s, p); !is || !ok {
					t.Errorf("CheckIn(%d, %d, %d, %q, %v) = %v, %v; want true, true", root, many, k, s, p, is, ok)
				}
			}
		}
	}
}

func holdCheckIn(t *testing.T, root, many, k int, s string, sums []int) (bool, bool) {
	t.Helper()
	p := impl.Proof{Sums: sums}
	isWant, okWant := wantCheckIn(root, many, k, s, p)
	is, ok := impl.CheckIn(root, many, k, s, p)
	if is != isWant || ok != okWant {
		t.Errorf("CheckIn(%d, %d, %d, %q, %.200v) = %v, %v; want %v, %v", root, many, k, s, sums, is, ok, isWant, okWant)
	}
	return is, ok
}

func TestCheckInOfAnother(t *testing.T) {
	for many := 1; many <= 40; many++ {
		l := entries(many)
		root := wantRoot(l)
		for k, s := range l {
			sums := wantProofIn(l, k)
			for name, bent := range bentSums(sums) {
				if is, _ := holdCheckIn(t, root, many, k, s, bent); is && !slices.Equal(bent, sums) {
					t.Errorf("of %d texts, %d: %s: it is in", many, k, name)
				}
			}
			for _, other := range otherRoots(root) {
				if is, ok := holdCheckIn(t, other, many, k, s, sums); is != (other == root) || ok != wantIsSum(other) {
					t.Errorf("of %d texts, %d: with the root %d: %v, %v", many, k, other, is, ok)
				}
			}
			for _, other := range []string{"", "entry", "entry 40", s + "0", "x" + s[1:], strings.Repeat("x", 20)} {
				if is, ok := holdCheckIn(t, root, many, k, other, sums); is || !ok {
					t.Errorf("of %d texts, %d: with the text %q: %v, %v", many, k, other, is, ok)
				}
			}
			if is, ok := holdCheckIn(t, root, many, k, strings.Repeat("x", 21), sums); is || ok {
				t.Errorf("of %d texts, %d: with 21 bytes: %v, %v", many, k, is, ok)
			}
		}
	}
}

// Another place or count is told true where the text and the sums make the root there as well: the way up may be one.
func TestCheckInElsewhere(t *testing.T) {
	elsewhere, tooMany := 0, 0
	for many := 1; many <= 40; many++ {
		l := entries(many)
		root := wantRoot(l)
		for k, s := range l {
			sums := wantProofIn(l, k)
			for otherMany := -1; otherMany <= 42; otherMany++ {
				for otherK := -1; otherK <= max(1, otherMany); otherK++ {
					is, ok := holdCheckIn(t, root, otherMany, otherK, s, sums)
					if is && (otherMany != many || otherK != k) {
						elsewhere++
					}
					if !ok {
						tooMany++
					}
				}
			}
		}
	}
	if elsewhere == 0 || tooMany < 1000 {
		t.Error("too few are told elsewhere, or not at all:", elsewhere, tooMany)
	}
}

func TestCheckInByHand(t *testing.T) {
	l, sums := byHand()
	root := sums["abcde"]
	proof := func(names string) []int {
		var p []int
		for _, name := range strings.Fields(names) {
			p = append(p, sums[name])
		}
		return p
	}
	for _, row := range []struct {
		root, many, k int
		s, sums       string
		is, ok        bool
	}{
		{root, 5, 4, "e", "abcd", true, true},
		{root, 5, 2, "c", "d ab e", true, true},
		{root, 5, 3, "d", "c ab e", true, true},
		{root, 5, 3, "c", "d ab e", false, true},
		{root, 5, 2, "c", "ab d e", false, true},
		{root, 5, 2, "d", "d ab e", false, true},
		{root, 5, 2, "c", "d ab", false, false},
		{root, 5, 2, "c", "d ab e e", false, false},
		{root, 5, 4, "e", "", false, false},
		{root, 5, 4, "e", "abcd abcd", false, false},
		{root, 5, 5, "e", "abcd", false, false},
		{root, 5, -1, "e", "abcd", false, false},
		{root, 3, 2, "e", "abcd", true, true},
		{root, 6, 2, "c", "d ab e", true, true},
		{root, 6, 4, "e", "abcd", false, false},
		{sums["a"], 1, 0, "a", "", true, true},
		{sums["b"], 1, 0, "a", "", false, true},
		{sums["a"], 1, 0, "a", "a", false, false},
		{sums["a"], 1, 1, "a", "", false, false},
		{sums["a"], 0, 0, "a", "", false, false},
		{1, 0, 0, "", "", false, false},
		{1, 0, -1, "", "", false, false},
	} {
		if is, ok := impl.CheckIn(row.root, row.many, row.k, row.s, impl.Proof{Sums: proof(row.sums)}); is != row.is || ok != row.ok {
			t.Errorf("CheckIn(%d, %d, %d, %q, %s) = %v, %v; want %v, %v", row.root, row.many, row.k, row.s, row.sums, is, ok, row.is, row.ok)
		}
	}
	if p, ok := impl.ProveIn(l, 2); !slices.Equal(p.Sums, proof("d ab e")) || !ok {
		t.Error("no test: the proof:", p, ok)
	}
}

// What is asked is what the sums make, not whether a log made them.
func TestCheckInOfTextsWithOneSum(t *testing.T) {
	for many := 1; many <= 40; many++ {
		for k := range many {
			l := entries(many)
			l[k] = textAaaa
			p, _ := impl.ProveIn(l, k)
			root, _ := impl.RootOf(l)
			if is, ok := impl.CheckIn(root, many, k, textJede, p); !is || !ok {
				t.Errorf("of %d texts, %d: another text of that sum: %v, %v", many, k, is, ok)
			}
			l[k] = textJede
			if other, ok := impl.ProveIn(l, k); !slices.Equal(p.Sums, other.Sums) || !ok {
				t.Errorf("of %d texts, %d: ProveIn tells of the text itself: %v, %v", many, k, p, other)
			}
		}
	}
	for _, s := range []string{textOfSum0, textOfSum1000002} {
		root := impl.LeafSum(s)
		if is, ok := impl.CheckIn(root, 1, 0, s, impl.Proof{}); !is || !ok {
			t.Errorf("the root %d: %v, %v", root, is, ok)
		}
		made, _ := impl.NodeSum(root, root)
		if is, ok := impl.CheckIn(made, 2, 1, s, impl.Proof{Sums: []int{root}}); !is || !ok {
			t.Errorf("the sum %d: %v, %v", root, is, ok)
		}
		if is, ok := impl.CheckIn(root, 1, 0, "a", impl.Proof{}); is || !ok {
			t.Errorf("the root %d, of another text: %v, %v", root, is, ok)
		}
	}
}

// A sum can be found that makes each root of any text; it is as good.
func TestCheckInOfSumsMadeUp(t *testing.T) {
	root := 123456
	for _, s := range []string{"", "a", textJede, textOfSum0, strings.Repeat("x", 20)} {
		leaf := wantLeaf(s)
		for k := range 2 {
			found := 0
			for sum := range sumsEnd {
				made := wantNode(leaf, sum)
				if k == 1 {
					made = wantNode(sum, leaf)
				}
				if made != root {
					continue
				}
				found++
				if is, ok := impl.CheckIn(root, 2, k, s, impl.Proof{Sums: []int{sum}}); !is || !ok {
					t.Errorf("%q at %d with the sum %d: %v, %v", s, k, sum, is, ok)
				}
			}
			if found != 1 {
				t.Errorf("%q at %d: %d sums make the root", s, k, found)
			}
		}
	}
}
