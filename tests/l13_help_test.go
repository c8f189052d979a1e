package tests

import (
	"math/rand"
	"slices"
	"strconv"

	"loop.example/g00333/impl"
)

// sumsEnd is the number that sums are below.
const sumsEnd = 1000003

// Texts whose sums are the least one, the one behind it, and the greatest one, worked out by hand.
const (
	textOfSum0       = "_K<"
	textOfSum1       = "_K="
	textOfSum1000002 = "_K;"
)

// Two texts of one sum.
const (
	textAaaa = "aaaa"
	textJede = "jede"
)

// wantLeaf adds up from the last byte on what each one brings in the end.
func wantLeaf(s string) int {
	sum, power := 0, 1
	for i := len(s) - 1; i >= 0; i-- {
		sum = (sum + power*(int(s[i])+1)) % sumsEnd
		power = power * 263 % sumsEnd
	}
	return (sum + power*7) % sumsEnd
}

func wantNode(a, b int) int {
	sum := 131*a + 17*b + 11
	return sum - sum/sumsEnd*sumsEnd
}

func wantIsSum(n int) bool {
	return n > -1 && n < sumsEnd
}

func wantAreSums(l ...int) bool {
	return !slices.ContainsFunc(l, func(n int) bool { return !wantIsSum(n) })
}

func wantIsLog(l []string) bool {
	return len(l) < 41 && !slices.ContainsFunc(l, func(s string) bool { return len(s) > 20 })
}

// wantRoot takes text by text, joins trees of one height as they come, and all that are left from the last one on.
func wantRoot(l []string) int {
	type tree struct{ height, sum int }
	var trees []tree
	for _, s := range l {
		trees = append(trees, tree{0, wantLeaf(s)})
		for last := len(trees) - 1; last > 0 && trees[last-1].height == trees[last].height; last-- {
			trees[last-1] = tree{trees[last].height + 1, wantNode(trees[last-1].sum, trees[last].sum)}
			trees = trees[:last]
		}
	}
	if len(trees) == 0 {
		return 1
	}
	sum := trees[len(trees)-1].sum
	for i := len(trees) - 2; i >= 0; i-- {
		sum = wantNode(trees[i].sum, sum)
	}
	return sum
}

// wantNodeAt is the root of what lies below a node at a height, counted from the left, as far as there are texts.
func wantNodeAt(l []string, height, at int) int {
	return wantRoot(l[at<<height : min((at+1)<<height, len(l))])
}

// wantProofIn goes up height by height: where there is a neighbour its sum is told.
func wantProofIn(l []string, k int) []int {
	var sums []int
	for height := 0; (len(l)-1)>>height > 0; height++ {
		if beside := k>>height ^ 1; beside<<height < len(l) {
			sums = append(sums, wantNodeAt(l, height, beside))
		}
	}
	return sums
}

// wantMakes is what a text and the sums make, by the bits of the place and of the last place alone, and whether the sums
// are just as many as are asked for (the way of RFC 9162).
func wantMakes(many, k int, s string, sums []int) (int, bool) {
	at, last, made := k, many-1, wantLeaf(s)
	for _, sum := range sums {
		if last == 0 {
			return 0, false
		}
		if at%2 == 1 || at == last {
			made = wantNode(sum, made)
			for at%2 == 0 && at != 0 {
				at, last = at/2, last/2
			}
		} else {
			made = wantNode(made, sum)
		}
		at, last = at/2, last/2
	}
	return made, last == 0
}

func wantCheckIn(root, many, k int, s string, p impl.Proof) (bool, bool) {
	if many < 1 || many > 40 || k < 0 || k > many-1 || len(s) > 20 || !wantIsSum(root) || !wantAreSums(p.Sums...) {
		return false, false
	}
	made, isMany := wantMakes(many, k, s, p.Sums)
	return isMany && made == root, isMany
}

// wantProofGrew goes up from the greatest tree that the last elder text is the last one of. Where the elder log is more
// than it the tree has a sum of its own.
func wantProofGrew(l []string, old int) []int {
	var sums []int
	if old == len(l) {
		return sums
	}
	height, at := 0, old-1
	for at%2 == 1 {
		height, at = height+1, at/2
	}
	if at > 0 {
		sums = append(sums, wantNodeAt(l, height, at))
	}
	for ; (len(l)-1)>>height > 0; height, at = height+1, at/2 {
		if beside := at ^ 1; beside<<height < len(l) {
			sums = append(sums, wantNodeAt(l, height, beside))
		}
	}
	return sums
}

// wantMakesBoth is what the sums make of the elder log and of the log, and whether they are as many as are asked for (the
// way of RFC 9162).
func wantMakesBoth(oldRoot, old, many int, sums []int) (int, int, bool) {
	if old == many {
		return oldRoot, oldRoot, len(sums) == 0
	}
	all := slices.Clone(sums)
	if old&(old-1) == 0 {
		all = slices.Insert(all, 0, oldRoot)
	}
	if len(all) == 0 {
		return 0, 0, false
	}
	at, last := old-1, many-1
	for at%2 == 1 {
		at, last = at/2, last/2
	}
	elder, newer := all[0], all[0]
	for _, sum := range all[1:] {
		if last == 0 {
			return 0, 0, false
		}
		if at%2 == 1 || at == last {
			elder, newer = wantNode(sum, elder), wantNode(sum, newer)
			for at%2 == 0 && at != 0 {
				at, last = at/2, last/2
			}
		} else {
			newer = wantNode(newer, sum)
		}
		at, last = at/2, last/2
	}
	return elder, newer, last == 0
}

func wantCheckGrew(oldRoot, old, root, many int, p impl.Proof) (bool, bool) {
	if old < 1 || old > many || many > 40 || !wantAreSums(oldRoot, root) || !wantAreSums(p.Sums...) {
		return false, false
	}
	elder, newer, isMany := wantMakesBoth(oldRoot, old, many, p.Sums)
	return isMany && elder == oldRoot && newer == root, isMany
}

// entries is a log of so many texts, no two alike.
func entries(many int) []string {
	var l []string
	for i := range many {
		l = append(l, "entry "+strconv.Itoa(i))
	}
	return l
}

// randomLog has texts of any bytes, of all lengths, some of them alike.
func randomLog(r *rand.Rand, many int) []string {
	var l []string
	for range many {
		text := make([]byte, r.Intn(21))
		for i := range text {
			text[i] = byte(r.Intn(256))
		}
		if r.Intn(8) == 0 {
			text = slices.Repeat(text[:min(1, len(text))], 20)
		}
		l = append(l, string(text))
	}
	return l
}

// bentSums are lists that are unlike a proof's in one sum, or in how many there are.
func bentSums(sums []int) map[string][]int {
	l := map[string][]int{
		"one too many":       append(slices.Clone(sums), 5),
		"one more ahead":     slices.Insert(slices.Clone(sums), 0, 5),
		"itself once more":   slices.Repeat(sums, 2),
		"very many":          make([]int, 1<<12),
		"none":               nil,
		"turned round":       slices.Clone(sums),
		"the last put first": slices.Clone(sums),
	}
	slices.Reverse(l["turned round"])
	for at, sum := range sums {
		for name, to := range map[string]int{
			"one more": (sum + 1) % sumsEnd, "one less": (sum + sumsEnd - 1) % sumsEnd, "the least": 0, "the greatest": sumsEnd - 1,
			"below all": -1, "above all": sumsEnd, "once round": sum + sumsEnd, "back round": sum - sumsEnd,
		} {
			bent := slices.Clone(sums)
			bent[at] = to
			l["sum "+strconv.Itoa(at)+" is "+name] = bent
		}
		l["without sum "+strconv.Itoa(at)] = slices.Delete(slices.Clone(sums), at, at+1)
		if at > 0 {
			first := l["the last put first"]
			first[at], first[0] = first[0], first[at]
		}
	}
	return l
}

// otherRoots are a root, those beside it, and those that none can have.
func otherRoots(root int) []int {
	return append(wrongSums(), root, (root+1)%sumsEnd, (root+sumsEnd-1)%sumsEnd, 0, sumsEnd-1, root+sumsEnd, root-sumsEnd)
}
