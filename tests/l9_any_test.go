package tests

import (
	"maps"
	"slices"
	"strconv"
	"sync"
	"testing"

	"loop.example/g00333/impl"
)

// anySides is numbers at which a side or a point may be given.
func anySides() []int {
	return append(anyNumbers(), -1001, -1000, -999, 999, 1000, 1001)
}

func anyBoxes() []impl.Box {
	l := []impl.Box{
		{}, {Sides: []impl.Side{}}, {Sides: make([]impl.Side, 1)}, {Sides: make([]impl.Side, 2)}, {Sides: make([]impl.Side, 3)}, {Sides: make([]impl.Side, 4)},
		{Sides: make([]impl.Side, 1<<9)}, {Sides: slices.Repeat([]impl.Side{{Lo: -1000, Hi: 1000}}, 1<<9)},
	}
	for _, n := range anySides() {
		for _, side := range []impl.Side{{Lo: n, Hi: n}, {Lo: n}, {Hi: n}, {Lo: n, Hi: -n}, {Lo: -1000, Hi: n}, {Lo: n, Hi: 1000}} {
			l = append(l,
				impl.Box{Sides: []impl.Side{side, side, side}},
				impl.Box{Sides: []impl.Side{side, {}, {}}},
				impl.Box{Sides: []impl.Side{{Lo: -7, Hi: 7}, side, {}}},
				impl.Box{Sides: []impl.Side{{}, {Lo: -1000, Hi: 1000}, side}},
				impl.Box{Sides: []impl.Side{side, side}},
				impl.Box{Sides: []impl.Side{side, side, side, side}},
			)
		}
	}
	wrong := wrongBoxes()
	for _, name := range slices.Sorted(maps.Keys(wrong)) {
		l = append(l, wrong[name])
	}
	return append(l, goodBoxes()...)
}

func anyPoints() [][]int {
	l := [][]int{nil, {}, make([]int, 1), make([]int, 2), make([]int, 3), make([]int, 4), make([]int, 1<<9)}
	for _, n := range anySides() {
		l = append(l, []int{n}, []int{n, n}, []int{n, n, n}, []int{n, 0, 0}, []int{0, n, 0}, []int{0, 0, n}, []int{n, n, n, n})
	}
	return append(l, goodPoints()...)
}

func anyListsOfBoxes() map[string][]impl.Box {
	all := anyBoxes()
	l := map[string][]impl.Box{
		"nil": nil, "empty": {}, "one zero box": make([]impl.Box, 1), "20 zero boxes": make([]impl.Box, 20), "very many zero boxes": make([]impl.Box, 1<<16),
		"very many good ones": slices.Repeat(goodBoxes(), 1<<12), "all there are": all, "good ones": goodBoxes(), "a good one 20 times": slices.Repeat(goodBoxes()[:1], 20),
		"a good one 21 times": slices.Repeat(goodBoxes()[:1], 21),
	}
	for i, b := range all {
		l["one, "+strconv.Itoa(i)] = []impl.Box{b}
		l["the last of 20, "+strconv.Itoa(i)] = append(slices.Repeat(goodBoxes()[1:2], 19), b)
		l["the first of three, "+strconv.Itoa(i)] = []impl.Box{b, goodBoxes()[0], goodBoxes()[1]}
		l["beside the next, "+strconv.Itoa(i)] = []impl.Box{b, all[(i+1)%len(all)]}
	}
	return l
}

// behindSides lays marks behind a list's length: they are neither to be read, nor written, nor handed out. The
// first one would make a box of two sides a good one.
func behindSides(b impl.Box) (impl.Box, []impl.Side) {
	memory := append(slices.Clone(b.Sides), impl.Side{Lo: 1, Hi: 2}, impl.Side{Lo: -77, Hi: 77}, impl.Side{Lo: 78, Hi: -78})
	return impl.Box{Sides: memory[:len(b.Sides)]}, memory
}

func behindPoint(point []int) ([]int, []int) {
	memory := append(slices.Clone(point), 1, 2, 3000)
	return memory[:len(point)], memory
}

// behindBoxes lays good boxes behind the list, and marks behind the sides of each of its boxes.
func behindBoxes(l []impl.Box) ([]impl.Box, []impl.Box, [][]impl.Side) {
	var memory []impl.Box
	var sides [][]impl.Side
	for _, b := range l {
		given, behind := behindSides(b)
		memory = append(memory, given)
		sides = append(sides, behind)
	}
	memory = append(memory, box("-1000..1000 -1000..1000 -1000..1000"), box("5 5 5"))
	return memory[:len(l)], memory, sides
}

// deepOfBoxes is a copy of boxes and of all their sides.
func deepOfBoxes(l []impl.Box) []impl.Box {
	var m []impl.Box
	for _, b := range l {
		m = append(m, impl.Box{Sides: slices.Clone(b.Sides)})
	}
	return m
}

func sameSides(l, m [][]impl.Side) bool {
	return slices.EqualFunc(l, m, func(a, b []impl.Side) bool { return slices.Equal(a, b) })
}

func copyOfSides(l [][]impl.Side) [][]impl.Side {
	var m [][]impl.Side
	for _, sides := range l {
		m = append(m, slices.Clone(sides))
	}
	return m
}

// A panic in any of these fails the test by itself.
func TestBoxesAnswerAtAnyBoxesAndPoints(t *testing.T) {
	good, told := 0, map[bool]int{}
	for i, b := range anyBoxes() {
		given, memory := behindSides(b)
		before := slices.Clone(memory)
		want := wantGoodBox(b)
		if impl.GoodBox(given) != want {
			t.Errorf("box %d: good is not %v", i, want)
		}
		if want {
			good++
		}
		for _, point := range anyPoints() {
			givenPoint, memoryPoint := behindPoint(point)
			beforePoint := slices.Clone(memoryPoint)
			okWant := want && wantGoodPoint(point)
			isWant := okWant && wantIn(place(point), b)
			is, ok := impl.BoxHas(given, givenPoint)
			if is != isWant || ok != okWant {
				t.Errorf("box %d, point of %d: BoxHas %v, %v; want %v, %v", i, len(point), is, ok, isWant, okWant)
			}
			if ok {
				told[is]++
			}
			if !slices.Equal(memoryPoint, beforePoint) {
				t.Fatal("a point was written into")
			}
		}
		if !slices.Equal(memory, before) {
			t.Fatalf("box %d was written into", i)
		}
	}
	if good < 50 || told[true] < 100 || told[false] < 1000 {
		t.Error("too few of a kind:", good, told)
	}
}

func TestTwoBoxesAnswerAtAnyBoxes(t *testing.T) {
	all := anyBoxes()
	good, met := 0, 0
	for i, a := range all {
		for j, b := range all {
			okWant := wantGoodBox(a) && wantGoodBox(b)
			if !okWant && (i+3*j)%17 != 0 {
				continue
			}
			givenA, memoryA := behindSides(a)
			givenB, memoryB := behindSides(b)
			beforeA, beforeB := slices.Clone(memoryA), slices.Clone(memoryB)
			isWant := okWant && wantCovered(b, a)
			if is, ok := impl.BoxCovers(givenA, givenB); is != isWant || ok != okWant {
				t.Errorf("boxes %d and %d: BoxCovers %v, %v; want %v, %v", i, j, is, ok, isWant, okWant)
			}
			hullWant := impl.Box{}
			if okWant {
				hullWant = leastAround(append(cornersOf(a), cornersOf(b)...))
				good++
			}
			if got, ok := impl.HullOf(givenA, givenB); !sameBox(got, hullWant) || ok != okWant {
				t.Errorf("boxes %d and %d: HullOf %v, %v; want %v", i, j, got, ok, hullWant)
			}
			meet, okMeet := impl.MeetBoxes(givenA, givenB)
			if okMeet && (!okWant || !wantCovered(meet, a) || !wantCovered(meet, b)) || okMeet != wantGoodBox(meet) || !okMeet && meet.Sides != nil {
				t.Errorf("boxes %d and %d: MeetBoxes %v, %v", i, j, meet, okMeet)
			}
			pieces, ok := impl.CutAway(givenA, givenB)
			if ok != okWant || !wantGoodBoxes(pieces) || !ok && len(pieces) != 0 {
				t.Errorf("boxes %d and %d: CutAway %v, %v", i, j, pieces, ok)
			}
			if okMeet {
				met++
				pieces = append(pieces, meet)
			}
			if okWant && wantVolume(pieces) != wantVolume([]impl.Box{a}) {
				t.Errorf("boxes %d and %d: what is left and what both have is not the whole: %v", i, j, pieces)
			}
			if !slices.Equal(memoryA, beforeA) || !slices.Equal(memoryB, beforeB) {
				t.Fatalf("boxes %d and %d: one was written into", i, j)
			}
		}
	}
	if good < 2000 || met < 1000 {
		t.Error("too few of a kind:", good, met)
	}
}

func TestListsOfBoxesAnswerAtAnyBoxes(t *testing.T) {
	good := 0
	for name, l := range anyListsOfBoxes() {
		given, memory, sides := behindBoxes(l)
		before, beforeSides := deepOfBoxes(memory), copyOfSides(sides)
		okWant := wantGoodBoxes(l)
		var neededWant []int
		volumeWant := 0
		if okWant {
			good++
			neededWant = wantNeeded(l)
			volumeWant = wantVolume(l)
		}
		if got, ok := impl.LeastCover(given); !slices.Equal(got, neededWant) || ok != okWant {
			t.Errorf("%s: LeastCover %v, %v; want %v, %v", name, got, ok, neededWant, okWant)
		}
		if got, ok := impl.VolumeOf(given); got != volumeWant || ok != okWant {
			t.Errorf("%s: VolumeOf %d, %v; want %d, %v", name, got, ok, volumeWant, okWant)
		}
		for _, point := range anyPoints() {
			ok := okWant && wantGoodPoint(point)
			is := ok && wantInAny(place(point), l)
			if isGot, okGot := impl.UnionHas(given, point); isGot != is || okGot != ok {
				t.Errorf("%s, point of %d: UnionHas %v, %v; want %v, %v", name, len(point), isGot, okGot, is, ok)
			}
		}
		if !sameBoxes(memory, before) || !sameSides(sides, beforeSides) {
			t.Fatalf("%s: it was written into", name)
		}
	}
	if good < 100 {
		t.Error("too few are good:", good)
	}
}

// What lies behind a list's length is no part of it.
func TestBoxesDoNotReadBehindTheLength(t *testing.T) {
	sides := box("0..9 0..9 0..9 0..9").Sides
	for end, good := range []bool{false, false, false, true, false} {
		b := impl.Box{Sides: sides[:end]}
		if impl.GoodBox(b) != good {
			t.Errorf("the first %d sides: good is not %v", end, good)
		}
		if is, ok := impl.BoxHas(b, []int{5, 5, 5}); is != good || ok != good {
			t.Errorf("the first %d sides: BoxHas %v, %v", end, is, ok)
		}
	}
	point := []int{5, 5, 5, 5}
	for end, good := range []bool{false, false, false, true, false} {
		if is, ok := impl.BoxHas(box("0..9 0..9 0..9"), point[:end]); is != good || ok != good {
			t.Errorf("the first %d numbers: BoxHas %v, %v", end, is, ok)
		}
		if is, ok := impl.UnionHas(boxes("0..9 0..9 0..9"), point[:end]); is != good || ok != good {
			t.Errorf("the first %d numbers: UnionHas %v, %v", end, is, ok)
		}
	}
	l := boxes("0 0 0,1 0 0,0..9 0..9 0..9")
	if got, ok := impl.LeastCover(l[:2]); !slices.Equal(got, []int{0, 1}) || !ok {
		t.Errorf("LeastCover = %v, %v", got, ok)
	}
	if got, ok := impl.VolumeOf(l[:2]); got != 2 || !ok {
		t.Errorf("VolumeOf = %v, %v", got, ok)
	}
	if is, ok := impl.UnionHas(l[:2], []int{5, 5, 5}); is || !ok {
		t.Errorf("UnionHas = %v, %v", is, ok)
	}
	if got, ok := impl.LeastCover(l[:0]); len(got) != 0 || !ok {
		t.Errorf("LeastCover of none = %v, %v", got, ok)
	}
}

// spoilSides writes over all that an answer hands out, and behind it.
func spoilSides(b impl.Box) {
	_ = append(b.Sides, impl.Side{Lo: 88})
	whole := b.Sides[:cap(b.Sides)]
	for i := range whole {
		whole[i] = impl.Side{Lo: 77, Hi: 76}
	}
}

func spoilBoxes(l []impl.Box) {
	_ = append(l, impl.Box{Sides: make([]impl.Side, 1)})
	for _, b := range l {
		spoilSides(b)
	}
	whole := l[:cap(l)]
	for i := range whole {
		whole[i] = impl.Box{}
	}
}

func TestTwoBoxesHandOutNewMemory(t *testing.T) {
	for name, c := range map[string]struct{ a, b, meet, hull string }{
		"alike":  {"0..9 0..9 0..9", "0..9 0..9 0..9", "0..9 0..9 0..9", "0..9 0..9 0..9"},
		"within": {"0..9 0..9 0..9", "1..2 1..2 1..2", "1..2 1..2 1..2", "0..9 0..9 0..9"},
		"around": {"1..2 1..2 1..2", "0..9 0..9 0..9", "1..2 1..2 1..2", "0..9 0..9 0..9"},
		"over":   {"0..9 0..9 0", "2..3 4..20 0", "2..3 4..9 0", "0..9 0..20 0"},
	} {
		a, memoryA := behindSides(box(c.a))
		b, memoryB := behindSides(box(c.b))
		beforeA, beforeB := slices.Clone(memoryA), slices.Clone(memoryB)
		firstMeet, _ := impl.MeetBoxes(a, b)
		secondMeet, okMeet := impl.MeetBoxes(a, b)
		firstHull, _ := impl.HullOf(a, b)
		secondHull, okHull := impl.HullOf(a, b)
		spoilSides(firstMeet)
		spoilSides(firstHull)
		if !sameBox(secondMeet, box(c.meet)) || !okMeet || !sameBox(secondHull, box(c.hull)) || !okHull {
			t.Errorf("%s: two answers share memory: %v, %v", name, secondMeet, secondHull)
		}
		if !slices.Equal(memoryA, beforeA) || !slices.Equal(memoryB, beforeB) {
			t.Errorf("%s: an argument's memory was written into", name)
		}
		same, memorySame := behindSides(box(c.a))
		got, ok := impl.MeetBoxes(same, same)
		hull, okSame := impl.HullOf(same, same)
		spoilSides(got)
		if !sameBox(same, box(c.a)) || !sameBox(hull, box(c.a)) || !ok || !okSame || !slices.Equal(memorySame, beforeA) {
			t.Errorf("%s: of one box twice: the answer shares its memory", name)
		}
	}
}

func TestCutAwayHandsOutNewMemory(t *testing.T) {
	for name, c := range map[string]struct{ a, b, want string }{
		"beside":        {"0..9 0..9 0..9", "10 0 0", "0..9 0..9 0..9"},
		"within":        {"0..2 0..2 0..2", "1 1 1", "0 0..2 0..2,2 0..2 0..2,1 0 0..2,1 2 0..2,1 1 0,1 1 2"},
		"over one side": {"0..9 0..9 0", "2..3 4..20 0", "0..1 0..9 0,4..9 0..9 0,2..3 0..3 0"},
	} {
		a, memoryA := behindSides(box(c.a))
		b, memoryB := behindSides(box(c.b))
		beforeA, beforeB := slices.Clone(memoryA), slices.Clone(memoryB)
		first, _ := impl.CutAway(a, b)
		second, ok := impl.CutAway(a, b)
		spoilBoxes(first)
		if !sameBoxes(second, boxes(c.want)) || !ok {
			t.Errorf("%s: two answers share memory: %v, %v", name, second, ok)
		}
		// No two boxes of one answer share any.
		for i := range second {
			spoilSides(second[i])
			if !sameBoxes(second[i+1:], boxes(c.want)[i+1:]) {
				t.Errorf("%s: box %d shares memory with a later one: %v", name, i, second)
			}
		}
		if !slices.Equal(memoryA, beforeA) || !slices.Equal(memoryB, beforeB) {
			t.Errorf("%s: an argument's memory was written into", name)
		}
	}
}

func TestLeastCoverHandsOutNewMemory(t *testing.T) {
	l := boxes("0 0 0,0..9 0..9 0..9,20 0 0,20 0 0,30 0 0")
	first, _ := impl.LeastCover(l)
	second, ok := impl.LeastCover(l)
	whole := first[:cap(first)]
	for i := range whole {
		whole[i] = 77
	}
	if !slices.Equal(second, []int{1, 2, 4}) || !ok || !sameBoxes(l, boxes("0 0 0,0..9 0..9 0..9,20 0 0,20 0 0,30 0 0")) {
		t.Errorf("two answers share memory: %v, %v", second, ok)
	}
}

// Boxes may share their sides, or be one and the same.
func TestBoxesOfOneMemory(t *testing.T) {
	sides := box("0..9 0..9 0..9 20 0 0").Sides
	l := []impl.Box{{Sides: sides[:3]}, {Sides: sides[3:]}, {Sides: sides[:3]}, {Sides: sides[1:4]}}
	if got, ok := impl.LeastCover(l); !slices.Equal(got, []int{0, 1, 3}) || !ok {
		t.Errorf("LeastCover = %v, %v", got, ok)
	}
	if got, ok := impl.VolumeOf(l); got != 1000+1+100 || !ok {
		t.Errorf("VolumeOf = %v, %v", got, ok)
	}
	if got, ok := impl.CutAway(l[0], l[0]); len(got) != 0 || !ok {
		t.Errorf("CutAway = %v, %v", got, ok)
	}
	if !slices.Equal(sides, box("0..9 0..9 0..9 20 0 0").Sides) {
		t.Error("the sides were written into:", sides)
	}
}

func TestBoxesAnswerTheSameFromManySides(t *testing.T) {
	l := boxes("2..3 4..9 0,0..9 0..9 0,2..3 4..20 0,0..9 0..9 0")
	var joined sync.WaitGroup
	for i := range 16 {
		joined.Go(func() {
			for range 100 {
				needed, okNeeded := impl.LeastCover(l)
				volume, okVolume := impl.VolumeOf(l)
				pieces, okCut := impl.CutAway(l[1], l[2])
				meet, okMeet := impl.MeetBoxes(l[1], l[2])
				if !slices.Equal(needed, []int{1, 2}) || !okNeeded || volume != 122 || !okVolume || len(pieces) != 3 || !okCut || !sameBox(meet, l[0]) || !okMeet {
					t.Errorf("%d: %v, %v, %d, %v, %v, %v, %v, %v", i, needed, okNeeded, volume, okVolume, pieces, okCut, meet, okMeet)
					return
				}
			}
		})
	}
	joined.Wait()
}
