package tests

import (
	"math/rand"
	"slices"
	"strings"

	"loop.example/g00333/impl"
)

// box reads sides as "-5..3 0..9 7"; the last of these is from 7 to 7. It does not ask whether the box is a good
// one, so that wrong ones can be written too.
func box(text string) impl.Box {
	var b impl.Box
	for _, word := range strings.Fields(text) {
		lo, hi, two := strings.Cut(word, "..")
		if !two {
			hi = lo
		}
		b.Sides = append(b.Sides, impl.Side{Lo: decimal(lo), Hi: decimal(hi)})
	}
	return b
}

// boxes reads boxes with commas between.
func boxes(text string) []impl.Box {
	var l []impl.Box
	if text == "" {
		return l
	}
	for _, part := range strings.Split(text, ",") {
		l = append(l, box(part))
	}
	return l
}

func sameBox(a, b impl.Box) bool {
	return slices.Equal(a.Sides, b.Sides)
}

func sameBoxes(l, m []impl.Box) bool {
	return slices.EqualFunc(l, m, sameBox)
}

// place is a point, or a cell of a grid: what the references count one by one.
type place [3]int

func wantGoodPlace(n int) bool {
	return -1000 <= n && n <= 1000
}

func wantGoodPoint(point []int) bool {
	return len(point) == 3 && !slices.ContainsFunc(point, func(n int) bool { return !wantGoodPlace(n) })
}

func wantGoodBox(b impl.Box) bool {
	if len(b.Sides) != 3 {
		return false
	}
	for _, side := range b.Sides {
		if !wantGoodPlace(side.Lo) || !wantGoodPlace(side.Hi) || side.Hi < side.Lo {
			return false
		}
	}
	return true
}

func wantGoodBoxes(l []impl.Box) bool {
	return len(l) < 21 && !slices.ContainsFunc(l, func(b impl.Box) bool { return !wantGoodBox(b) })
}

// wantIn takes a good box.
func wantIn(p place, b impl.Box) bool {
	for i, side := range b.Sides {
		if p[i] < side.Lo || side.Hi < p[i] {
			return false
		}
	}
	return true
}

func wantInAny(p place, l []impl.Box) bool {
	return slices.ContainsFunc(l, func(b impl.Box) bool { return wantIn(p, b) })
}

// cornersOf is the eight corners of a good box; alike ones stand more than once.
func cornersOf(b impl.Box) []place {
	var l []place
	for which := range 8 {
		var p place
		for i, side := range b.Sides {
			p[i] = side.Lo
			if which>>i&1 == 1 {
				p[i] = side.Hi
			}
		}
		l = append(l, p)
	}
	return l
}

// wantCovered: a box is within another one where its corners are.
func wantCovered(b, by impl.Box) bool {
	return !slices.ContainsFunc(cornersOf(b), func(p place) bool { return !wantIn(p, by) })
}

// leastAround is the least box around places, of which there is at least one.
func leastAround(l []place) impl.Box {
	b := impl.Box{Sides: make([]impl.Side, 3)}
	for i := range 3 {
		b.Sides[i] = impl.Side{Lo: l[0][i], Hi: l[0][i]}
		for _, p := range l {
			b.Sides[i].Lo = min(b.Sides[i].Lo, p[i])
			b.Sides[i].Hi = max(b.Sides[i].Hi, p[i])
		}
	}
	return b
}

// placesIn is every place of a small box, one by one.
func placesIn(b impl.Box) []place {
	var l []place
	for x := b.Sides[0].Lo; x <= b.Sides[0].Hi; x++ {
		for y := b.Sides[1].Lo; y <= b.Sides[1].Hi; y++ {
			for z := b.Sides[2].Lo; z <= b.Sides[2].Hi; z++ {
				l = append(l, place{x, y, z})
			}
		}
	}
	return l
}

func placesInBoth(a, b impl.Box) []place {
	return slices.DeleteFunc(placesIn(a), func(p place) bool { return !wantIn(p, b) })
}

// wantCut takes small boxes. Each place of a that b has not belongs to the first side in which it is beside b,
// there to what is below or to what is above; each of these six is one box, where it has a place.
func wantCut(a, b impl.Box) []impl.Box {
	if len(placesInBoth(a, b)) == 0 {
		return []impl.Box{a}
	}
	var six [6][]place
	for _, p := range placesIn(a) {
		for i, side := range b.Sides {
			if p[i] < side.Lo {
				six[2*i] = append(six[2*i], p)
				break
			}
			if p[i] > side.Hi {
				six[2*i+1] = append(six[2*i+1], p)
				break
			}
		}
	}
	var l []impl.Box
	for _, places := range six {
		if len(places) > 0 {
			l = append(l, leastAround(places))
		}
	}
	return l
}

// wantNeeded takes away one box after another, from the back: a box goes where one that still stands covers it.
func wantNeeded(l []impl.Box) []int {
	var stay []int
	for i := range l {
		stay = append(stay, i)
	}
	for i := len(l) - 1; i >= 0; i-- {
		if slices.ContainsFunc(stay, func(j int) bool { return j != i && wantCovered(l[i], l[j]) }) {
			stay = slices.DeleteFunc(stay, func(j int) bool { return j == i })
		}
	}
	return stay
}

// wantVolume cuts all there is at each side of each box, so that a box has all of a piece or nothing.
func wantVolume(l []impl.Box) int {
	var cuts [3][]int
	for _, b := range l {
		for i, side := range b.Sides {
			cuts[i] = append(cuts[i], side.Lo, side.Hi+1)
		}
	}
	for i := range cuts {
		slices.Sort(cuts[i])
		cuts[i] = slices.Compact(cuts[i])
	}
	many := 0
	for x := 0; x+1 < len(cuts[0]); x++ {
		for y := 0; y+1 < len(cuts[1]); y++ {
			for z := 0; z+1 < len(cuts[2]); z++ {
				if wantInAny(place{cuts[0][x], cuts[1][y], cuts[2][z]}, l) {
					many += (cuts[0][x+1] - cuts[0][x]) * (cuts[1][y+1] - cuts[1][y]) * (cuts[2][z+1] - cuts[2][z])
				}
			}
		}
	}
	return many
}

// countedVolume counts places one by one, each once.
func countedVolume(l []impl.Box) int {
	seen := map[place]bool{}
	for _, b := range l {
		for _, p := range placesIn(b) {
			seen[p] = true
		}
	}
	return len(seen)
}

// grid tells where each cell of a side begins, and behind all where the last one ends. A box of cells is a box of
// numbers then; what boxes of cells have in common, around them and beside each other is laid out likewise.
type grid []int

func (g grid) cells() int {
	return len(g) - 1
}

func (g grid) laid(b impl.Box) impl.Box {
	var wide impl.Box
	for _, side := range b.Sides {
		wide.Sides = append(wide.Sides, impl.Side{Lo: g[side.Lo], Hi: g[side.Hi+1] - 1})
	}
	return wide
}

func (g grid) laidAll(l []impl.Box) []impl.Box {
	var wide []impl.Box
	for _, b := range l {
		wide = append(wide, g.laid(b))
	}
	return wide
}

// threes are grids of three cells: all that two sides can be to each other is there, at the edges too.
func threes() []grid {
	return []grid{
		{4, 5, 6, 7}, {-1000, -999, 1000, 1001}, {-1000, -1, 1, 1001}, {-1000, 0, 1, 1001}, {-1000, -998, -997, -995}, {990, 999, 1000, 1001}, {-3, 0, 3, 4},
	}
}

// boxesOfCells is all boxes of so many cells a side.
func boxesOfCells(cells int) []impl.Box {
	var sides []impl.Side
	for lo := range cells {
		for hi := lo; hi < cells; hi++ {
			sides = append(sides, impl.Side{Lo: lo, Hi: hi})
		}
	}
	var l []impl.Box
	for _, x := range sides {
		for _, y := range sides {
			for _, z := range sides {
				l = append(l, impl.Box{Sides: []impl.Side{x, y, z}})
			}
		}
	}
	return l
}

// randomBox is a good box of numbers from lo to hi.
func randomBox(r *rand.Rand, lo, hi int) impl.Box {
	var b impl.Box
	for range 3 {
		from, to := lo+r.Intn(hi-lo+1), lo+r.Intn(hi-lo+1)
		b.Sides = append(b.Sides, impl.Side{Lo: min(from, to), Hi: max(from, to)})
	}
	return b
}

// randomBoxIn is a good box within another one.
func randomBoxIn(r *rand.Rand, b impl.Box) impl.Box {
	var inner impl.Box
	for _, side := range b.Sides {
		from, to := side.Lo+r.Intn(side.Hi-side.Lo+1), side.Lo+r.Intn(side.Hi-side.Lo+1)
		inner.Sides = append(inner.Sides, impl.Side{Lo: min(from, to), Hi: max(from, to)})
	}
	return inner
}

// randomBoxes is at most 20 boxes: new ones, ones in those ahead of them, and the same as these.
func randomBoxes(r *rand.Rand, lo, hi int) []impl.Box {
	var l []impl.Box
	for range r.Intn(21) {
		b := randomBox(r, lo, hi)
		if len(l) > 0 {
			switch one := l[r.Intn(len(l))]; r.Intn(4) {
			case 0:
				b = randomBoxIn(r, one)
			case 1:
				b = one
			}
		}
		l = append(l, impl.Box{Sides: slices.Clone(b.Sides)})
	}
	r.Shuffle(len(l), func(i, j int) { l[i], l[j] = l[j], l[i] })
	return l
}
