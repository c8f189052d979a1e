package tests

import (
	"math"
	"math/rand"
	"slices"
	"strings"
	"testing"

	"loop.example/g00333/impl"
)

func TestProveGrewByHand(t *testing.T) {
	l, sums := byHand()
	for _, row := range []struct {
		many, old int
		want      string
	}{
		{1, 1, ""},
		{2, 1, "b"}, {2, 2, ""},
		{3, 1, "b c"}, {3, 2, "c"}, {3, 3, ""},
		{4, 1, "b cd"}, {4, 2, "cd"}, {4, 3, "c d ab"}, {4, 4, ""},
		{5, 1, "b cd e"}, {5, 2, "cd e"}, {5, 3, "c d ab e"}, {5, 4, "e"}, {5, 5, ""},
	} {
		var want []int
		for _, name := range strings.Fields(row.want) {
			want = append(want, sums[name])
		}
		if got, ok := impl.ProveGrew(l[:row.many], row.old); !slices.Equal(got.Sums, want) || !ok {
			t.Errorf("ProveGrew(%q, %d) = %v, %v; want %v, true", l[:row.many], row.old, got, ok, want)
		}
	}
}

func TestProveGrewIsWrong(t *testing.T) {
	for many := range 43 {
		for _, old := range []int{math.MinInt, -many - 1, -1, 0, many + 1, many + 2, 41, 43, math.MaxInt} {
			if got, ok := impl.ProveGrew(entries(many), old); got.Sums != nil || ok {
				t.Errorf("ProveGrew of %d texts, %d = %v, %v", many, old, got, ok)
			}
		}
	}
	for _, old := range []int{1, 2, 39, 40, 41} {
		if got, ok := impl.ProveGrew(entries(41), old); got.Sums != nil || ok {
			t.Errorf("ProveGrew of 41 texts, %d = %v, %v", old, got, ok)
		}
		for at := range 40 {
			l := entries(40)
			l[at] = strings.Repeat("x", 21)
			if got, ok := impl.ProveGrew(l, min(old, 40)); got.Sums != nil || ok {
				t.Errorf("ProveGrew, text %d has 21 bytes, %d = %v, %v", at, old, got, ok)
			}
		}
	}
}

// Promise 13, that a log only grew.
func TestEachLogGrew(t *testing.T) {
	r := rand.New(rand.NewSource(17))
	for many := 1; many <= 40; many++ {
		for _, l := range [][]string{entries(many), randomLog(r, many), randomLog(r, many), slices.Repeat([]string{"one"}, many)} {
			root := wantRoot(l)
			for old := 1; old <= many; old++ {
				want := wantProofGrew(l, old)
				p, ok := impl.ProveGrew(l, old)
				if !slices.Equal(p.Sums, want) || !ok {
					t.Errorf("ProveGrew(%q, %d) = %v, %v; want %v, true", l, old, p, ok, want)
				}
				oldRoot := wantRoot(l[:old])
				if is, ok := impl.CheckGrew(oldRoot, old, root, many, p); !is || !ok {
					t.Errorf("CheckGrew(%d, %d, %d, %d, %v) = %v, %v; want true, true", oldRoot, old, root, many, p, is, ok)
				}
			}
		}
	}
}

func holdCheckGrew(t *testing.T, oldRoot, old, root, many int, sums []int) (bool, bool) {
	t.Helper()
	p := impl.Proof{Sums: sums}
	isWant, okWant := wantCheckGrew(oldRoot, old, root, many, p)
	is, ok := impl.CheckGrew(oldRoot, old, root, many, p)
	if is != isWant || ok != okWant {
		t.Errorf("CheckGrew(%d, %d, %d, %d, %.200v) = %v, %v; want %v, %v", oldRoot, old, root, many, sums, is, ok, isWant, okWant)
	}
	return is, ok
}

func TestCheckGrewOfAnother(t *testing.T) {
	for many := 1; many <= 40; many++ {
		l := entries(many)
		root := wantRoot(l)
		for old := 1; old <= many; old++ {
			oldRoot, sums := wantRoot(l[:old]), wantProofGrew(l, old)
			for name, bent := range bentSums(sums) {
				if is, _ := holdCheckGrew(t, oldRoot, old, root, many, bent); is && !slices.Equal(bent, sums) {
					t.Errorf("%d grew to %d: %s: it grew", old, many, name)
				}
			}
			for _, other := range otherRoots(oldRoot) {
				if is, ok := holdCheckGrew(t, other, old, root, many, sums); is != (other == oldRoot) || ok != wantIsSum(other) {
					t.Errorf("%d grew to %d: with the first root %d: %v, %v", old, many, other, is, ok)
				}
			}
			for _, other := range otherRoots(root) {
				if is, ok := holdCheckGrew(t, oldRoot, old, other, many, sums); is != (other == root) || ok != wantIsSum(other) {
					t.Errorf("%d grew to %d: with the root %d: %v, %v", old, many, other, is, ok)
				}
			}
			if oldRoot != root {
				holdCheckGrew(t, root, old, oldRoot, many, sums)
				holdCheckGrew(t, root, old, root, many, sums)
				holdCheckGrew(t, oldRoot, old, oldRoot, many, sums)
			}
		}
	}
}

func TestCheckGrewOfOtherLengths(t *testing.T) {
	elsewhere, wrong := 0, 0
	for many := 1; many <= 40; many++ {
		l := entries(many)
		root := wantRoot(l)
		for old := 1; old <= many; old++ {
			oldRoot, sums := wantRoot(l[:old]), wantProofGrew(l, old)
			for otherMany := -1; otherMany <= 42; otherMany++ {
				for otherOld := -1; otherOld <= max(2, otherMany+1); otherOld++ {
					is, ok := holdCheckGrew(t, oldRoot, otherOld, root, otherMany, sums)
					if is && (otherMany != many || otherOld != old) {
						elsewhere++
					}
					if !ok {
						wrong++
					}
				}
			}
		}
	}
	if elsewhere == 0 || wrong < 1000 {
		t.Error("too few are told elsewhere, or not at all:", elsewhere, wrong)
	}
}

// A log whose elder texts were changed, left out or put in another order did not only grow.
func TestCheckGrewOfAChangedLog(t *testing.T) {
	for many := 2; many <= 40; many++ {
		l := entries(many)
		for old := 1; old < many; old++ {
			oldRoot := wantRoot(l[:old])
			for at := range old {
				changed := slices.Clone(l)
				changed[at] = "other"
				p, _ := impl.ProveGrew(changed, old)
				root, _ := impl.RootOf(changed)
				if is, ok := holdCheckGrew(t, oldRoot, old, root, many, p.Sums); is || !ok {
					t.Errorf("%d grew to %d, text %d was changed: %v, %v", old, many, at, is, ok)
				}
			}
			// Behind the elder ones all may be changed.
			for at := old; at < many; at++ {
				changed := slices.Clone(l)
				changed[at] = "other"
				p, _ := impl.ProveGrew(changed, old)
				root, _ := impl.RootOf(changed)
				if is, ok := holdCheckGrew(t, oldRoot, old, root, many, p.Sums); !is || !ok {
					t.Errorf("%d grew to %d, text %d is another one: %v, %v", old, many, at, is, ok)
				}
			}
		}
	}
}

func TestCheckGrewOfTheSameLength(t *testing.T) {
	for many := -1; many <= 42; many++ {
		good := many >= 1 && many <= 40
		for _, root := range []int{0, 1, 7, 500000, sumsEnd - 1} {
			if is, ok := impl.CheckGrew(root, many, root, many, impl.Proof{}); is != good || ok != good {
				t.Errorf("of %d, both roots %d: %v, %v", many, root, is, ok)
			}
			if is, ok := impl.CheckGrew(root, many, root, many, impl.Proof{Sums: []int{}}); is != good || ok != good {
				t.Errorf("of %d, both roots %d, an empty list: %v, %v", many, root, is, ok)
			}
			for _, other := range []int{2, 499999, sumsEnd - 2} {
				if is, ok := impl.CheckGrew(root, many, other, many, impl.Proof{}); is || ok != good {
					t.Errorf("of %d, the roots %d and %d: %v, %v", many, root, other, is, ok)
				}
			}
			for _, sums := range [][]int{{root}, {0}, {root, root}, {-1}} {
				if is, ok := impl.CheckGrew(root, many, root, many, impl.Proof{Sums: sums}); is || ok {
					t.Errorf("of %d, both roots %d, with sums %v: %v, %v", many, root, sums, is, ok)
				}
			}
		}
		for _, wrong := range wrongSums() {
			for _, roots := range [][2]int{{wrong, wrong}, {wrong, 7}, {7, wrong}} {
				if is, ok := impl.CheckGrew(roots[0], many, roots[1], many, impl.Proof{}); is || ok {
					t.Errorf("of %d, the roots %v: %v, %v", many, roots, is, ok)
				}
			}
		}
	}
}

func TestCheckGrewByHand(t *testing.T) {
	_, sums := byHand()
	for _, row := range []struct {
		oldRoot string
		old     int
		root    string
		many    int
		sums    string
		is, ok  bool
	}{
		{"abc", 3, "abcde", 5, "c d ab e", true, true},
		{"abc", 3, "abcd", 4, "c d ab", true, true},
		{"ab", 2, "abcde", 5, "cd e", true, true},
		{"abcd", 4, "abcde", 5, "e", true, true},
		{"a", 1, "abcde", 5, "b cd e", true, true},
		{"abc", 3, "abcde", 5, "d c ab e", false, true},
		{"abc", 3, "abcde", 5, "c d ab d", false, true},
		{"abc", 3, "abcde", 5, "c d cd e", false, true},
		{"abcd", 3, "abcde", 5, "c d ab e", false, true},
		{"abc", 3, "abcd", 5, "c d ab e", false, true},
		{"abc", 3, "abcde", 5, "d ab e", false, false},
		{"abc", 3, "abcde", 5, "abc c d ab e", false, false},
		{"abc", 3, "abcde", 5, "", false, false},
		{"abcd", 4, "abcde", 5, "abcd e", false, false},
		{"abcd", 4, "abcde", 5, "", false, false},
		{"abcd", 4, "abcde", 4, "e", false, false},
		{"abcd", 4, "abcde", 4, "", false, true},
		{"abcde", 5, "abcd", 4, "e", false, false},
		{"abcde", 5, "abcd", 4, "", false, false},
		{"abcd", 0, "abcde", 5, "e", false, false},
		{"abcd", 0, "abcd", 0, "", false, false},
		{"abcd", 2, "abcde", 3, "e", true, true},
		{"abc", 3, "abcde", 6, "c d ab e", true, true},
		{"abcd", 32, "abcde", 40, "e", true, true},
		{"abcd", 32, "abcde", 41, "e", false, false},
		{"abcd", 40, "abcd", 40, "", true, true},
		{"abcd", 41, "abcd", 41, "", false, false},
	} {
		var p impl.Proof
		for _, name := range strings.Fields(row.sums) {
			p.Sums = append(p.Sums, sums[name])
		}
		if is, ok := impl.CheckGrew(sums[row.oldRoot], row.old, sums[row.root], row.many, p); is != row.is || ok != row.ok {
			t.Errorf("CheckGrew(%s, %d, %s, %d, %s) = %v, %v; want %v, %v", row.oldRoot, row.old, row.root, row.many, row.sums, is, ok, row.is, row.ok)
		}
	}
}
