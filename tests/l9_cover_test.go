package tests

import (
	"math"
	"math/rand"
	"slices"
	"strconv"
	"testing"

	"loop.example/g00333/impl"
)

func TestCoverConstants(t *testing.T) {
	if impl.MaxSides != 3 || impl.MaxBoxes != 20 {
		t.Error(impl.MaxSides, impl.MaxBoxes)
	}
}

func TestBoxesWrittenOut(t *testing.T) {
	for text, want := range map[string]impl.Box{
		"":                {},
		"5":               {Sides: []impl.Side{{Lo: 5, Hi: 5}}},
		"-5..3 7 9..-1":   {Sides: []impl.Side{{Lo: -5, Hi: 3}, {Lo: 7, Hi: 7}, {Lo: 9, Hi: -1}}},
		"-7..-6 0 0..999": {Sides: []impl.Side{{Lo: -7, Hi: -6}, {}, {Lo: 0, Hi: 999}}},
	} {
		if !sameBox(box(text), want) {
			t.Errorf("no test: the notation of %q", text)
		}
	}
}

func goodBoxes() []impl.Box {
	return boxes("0 0 0,-1000..1000 -1000..1000 -1000..1000,-1000 -1000 -1000,1000 1000 1000,-1000 0 1000,-999..999 -999..1000 -1000..999," +
		"0..1 0..1 0..1,-1..0 -1..1 0..1,5 6..7 8..10,-1000..-999 999..1000 -1000..-1000,999..1000 1000 -1000,-7..-3 -2..2 3..7")
}

// wrongBoxes are not good in any place.
func wrongBoxes() map[string]impl.Box {
	l := map[string]impl.Box{
		"no sides":            {},
		"an empty list":       {Sides: []impl.Side{}},
		"one side":            box("0"),
		"two sides":           box("0 0"),
		"four sides":          box("0 0 0 0"),
		"six sides":           box("0 0 0 0 0 0"),
		"very many sides":     {Sides: make([]impl.Side, 1<<9)},
		"four sides, wide":    box("-1000..1000 -1000..1000 -1000..1000 -1000..1000"),
		"three, one is wrong": box("0..1 1..0 0..1"),
	}
	for name, side := range map[string]impl.Side{
		"Lo one beyond":             {Lo: -1001, Hi: 0},
		"Hi one beyond":             {Lo: 0, Hi: 1001},
		"both one beyond":           {Lo: -1001, Hi: 1001},
		"below all":                 {Lo: -1002, Hi: -1001},
		"above all":                 {Lo: 1001, Hi: 1002},
		"below, the same":           {Lo: -1001, Hi: -1001},
		"above, the same":           {Lo: 1001, Hi: 1001},
		"Lo greater":                {Lo: 1, Hi: 0},
		"Lo greater, below 0":       {Lo: -999, Hi: -1000},
		"Lo greater, at the edge":   {Lo: 1000, Hi: 999},
		"the edges turned":          {Lo: 1000, Hi: -1000},
		"Lo the least":              {Lo: math.MinInt, Hi: 0},
		"Hi the greatest":           {Lo: 0, Hi: math.MaxInt},
		"the least to the most":     {Lo: math.MinInt, Hi: math.MaxInt},
		"the greatest and least":    {Lo: math.MaxInt, Hi: math.MinInt},
		"Lo the greatest":           {Lo: math.MaxInt, Hi: 0},
		"Hi the least":              {Lo: 0, Hi: math.MinInt},
		"both the least":            {Lo: math.MinInt, Hi: math.MinInt},
		"both the greatest":         {Lo: math.MaxInt, Hi: math.MaxInt},
		"Lo the greatest of all 32": {Lo: math.MaxInt32, Hi: math.MaxInt32},
	} {
		for at := range 3 {
			b := box("-1..1 0..5 -1000..1000")
			b.Sides[at] = side
			l[name+", side "+strconv.Itoa(at)] = b
		}
	}
	return l
}

func goodPoints() [][]int {
	return [][]int{
		{0, 0, 0}, {-1000, -1000, -1000}, {1000, 1000, 1000}, {-1000, 1000, 0}, {999, -999, 5}, {1, 2, 3}, {-1, 0, 1}, {5, 6, 8}, {1000, 999, -1000},
	}
}

func wrongPoints() map[string][]int {
	l := map[string][]int{
		"no numbers":   nil,
		"an empty one": {},
		"one":          {0},
		"two":          {0, 0},
		"four":         {0, 0, 0, 0},
		"six":          {0, 0, 0, 0, 0, 0},
		"very many":    make([]int, 1<<9),
	}
	for _, n := range []int{-1001, 1001, math.MinInt, math.MaxInt, math.MinInt + 1, math.MaxInt - 1, math.MinInt32, math.MaxInt32} {
		for at := range 3 {
			point := []int{0, 0, 0}
			point[at] = n
			l[strconv.Itoa(n)+" in place "+strconv.Itoa(at)] = point
		}
		l["three times "+strconv.Itoa(n)] = []int{n, n, n}
	}
	return l
}

func TestGoodBox(t *testing.T) {
	for _, b := range goodBoxes() {
		if !impl.GoodBox(b) || !wantGoodBox(b) {
			t.Error("not good:", b)
		}
	}
	for name, b := range wrongBoxes() {
		if impl.GoodBox(b) || wantGoodBox(b) {
			t.Error("good:", name)
		}
	}
}

func TestGoodBoxAtEachEdge(t *testing.T) {
	near := []int{-1002, -1001, -1000, -999, -1, 0, 1, 999, 1000, 1001, 1002}
	for _, lo := range near {
		for _, hi := range near {
			for at := range 3 {
				b := box("7 -7..0 1000")
				b.Sides[at] = impl.Side{Lo: lo, Hi: hi}
				if want := lo >= -1000 && lo <= hi && hi <= 1000; impl.GoodBox(b) != want {
					t.Errorf("%v: good is not %v", b, want)
				}
			}
		}
	}
}

func TestBoxHasTable(t *testing.T) {
	for _, c := range []struct {
		box   string
		point []int
		want  bool
	}{
		{"0..9 0..9 0", []int{0, 0, 0}, true},
		{"0..9 0..9 0", []int{9, 9, 0}, true},
		{"0..9 0..9 0", []int{4, 5, 0}, true},
		{"0..9 0..9 0", []int{10, 9, 0}, false},
		{"0..9 0..9 0", []int{-1, 0, 0}, false},
		{"0..9 0..9 0", []int{0, 10, 0}, false},
		{"0..9 0..9 0", []int{0, -1, 0}, false},
		{"0..9 0..9 0", []int{0, 0, 1}, false},
		{"0..9 0..9 0", []int{0, 0, -1}, false},
		{"-1000..1000 -1000..1000 -1000..1000", []int{-1000, 1000, 0}, true},
		{"-1000..999 -1000..1000 -1000..1000", []int{1000, 1000, 0}, false},
		{"-1000..1000 -999..1000 -1000..1000", []int{-1000, -1000, 0}, false},
		{"1 2 3", []int{1, 2, 3}, true},
		{"1 2 3", []int{3, 2, 1}, false},
		{"1 2 3", []int{2, 1, 3}, false},
		{"1000 1000 1000", []int{1000, 1000, 1000}, true},
		{"-1000 -1000 -1000", []int{1000, 1000, 1000}, false},
	} {
		if is, ok := impl.BoxHas(box(c.box), c.point); is != c.want || !ok {
			t.Errorf("BoxHas(%s, %v) = %v, %v; want %v", c.box, c.point, is, ok, c.want)
		}
		if is, ok := impl.UnionHas(boxes(c.box), c.point); is != c.want || !ok {
			t.Errorf("UnionHas(%s, %v) = %v, %v; want %v", c.box, c.point, is, ok, c.want)
		}
	}
}

// Each point of a box, and each just beside one of its sides.
func TestBoxHasJustItsPoints(t *testing.T) {
	for _, text := range []string{"0 0 0", "3..5 -1 0..2", "-2..1 4..7 9..9", "998..1000 -1000..-998 0..1", "-1000 1000 -1000..-997", "999 -999..-998 999..1000"} {
		b := box(text)
		around := box(text)
		for i := range around.Sides {
			around.Sides[i].Lo--
			around.Sides[i].Hi++
		}
		in, out, beyond := 0, 0, 0
		for _, p := range placesIn(around) {
			good := wantGoodPoint(p[:])
			is, ok := impl.BoxHas(b, p[:])
			if is != (good && wantIn(p, b)) || ok != good {
				t.Errorf("BoxHas(%s, %v) = %v, %v", text, p, is, ok)
			}
			switch {
			case is:
				in++
			case ok:
				out++
			default:
				beyond++
			}
		}
		if in != len(placesIn(b)) || out+beyond == 0 {
			t.Errorf("no test: %s: %d in, %d out, %d beyond", text, in, out, beyond)
		}
	}
}

func TestBoxHasOfGreatBoxes(t *testing.T) {
	r := rand.New(rand.NewSource(91))
	told := map[bool]int{}
	for range 20000 {
		b := randomBox(r, -1000, 1000)
		var p place
		for i, side := range b.Sides {
			p[i] = min(1000, max(-1000, []int{side.Lo - 1, side.Lo, side.Hi, side.Hi + 1, r.Intn(2001) - 1000, (side.Lo + side.Hi) / 2}[r.Intn(6)]))
		}
		is, ok := impl.BoxHas(b, p[:])
		if is != wantIn(p, b) || !ok {
			t.Fatalf("BoxHas(%v, %v) = %v, %v", b, p, is, ok)
		}
		told[is]++
	}
	if told[true] < 1000 || told[false] < 1000 {
		t.Error("no test:", told)
	}
}

func TestBoxHasRefuses(t *testing.T) {
	points := append(goodPoints(), nil, []int{1001, 0, 0})
	for name, b := range wrongBoxes() {
		for _, point := range points {
			if is, ok := impl.BoxHas(b, point); is || ok {
				t.Errorf("%s, %v: BoxHas = %v, %v", name, point, is, ok)
			}
		}
	}
	for name, point := range wrongPoints() {
		for _, b := range goodBoxes() {
			if is, ok := impl.BoxHas(b, point); is || ok {
				t.Errorf("%v, %s: BoxHas = %v, %v", b, name, is, ok)
			}
		}
	}
	for _, b := range goodBoxes() {
		for _, point := range goodPoints() {
			if _, ok := impl.BoxHas(b, point); !ok {
				t.Errorf("BoxHas(%v, %v) is refused", b, point)
			}
		}
	}
}

// What two boxes are to each other, written out.
func TestTwoBoxesTable(t *testing.T) {
	for name, c := range map[string]struct {
		a, b   string
		covers bool
		meet   string
		hull   string
	}{
		"alike":                     {"0..9 0..9 0", "0..9 0..9 0", true, "0..9 0..9 0", "0..9 0..9 0"},
		"over one side":             {"0..9 0..9 0", "2..3 4..20 0", false, "2..3 4..9 0", "0..9 0..20 0"},
		"within":                    {"0..9 0..9 0..9", "2..3 4..5 6..7", true, "2..3 4..5 6..7", "0..9 0..9 0..9"},
		"within, at the low edge":   {"0..9 0..9 0..9", "0..3 0..3 0..3", true, "0..3 0..3 0..3", "0..9 0..9 0..9"},
		"within, at the high edge":  {"0..9 0..9 0..9", "7..9 7..9 7..9", true, "7..9 7..9 7..9", "0..9 0..9 0..9"},
		"around":                    {"2..3 4..5 6..7", "0..9 0..9 0..9", false, "2..3 4..5 6..7", "0..9 0..9 0..9"},
		"one beyond, the first":     {"0..9 0..9 0..9", "-1..9 0..9 0..9", false, "0..9 0..9 0..9", "-1..9 0..9 0..9"},
		"one beyond, the last":      {"0..9 0..9 0..9", "0..9 0..9 0..10", false, "0..9 0..9 0..9", "0..9 0..9 0..10"},
		"a point in common":         {"0..5 0..5 0..5", "5..9 5..9 5..9", false, "5 5 5", "0..9 0..9 0..9"},
		"an edge in common":         {"0..5 0..5 0..5", "5..9 5..9 0..5", false, "5 5 0..5", "0..9 0..9 0..5"},
		"a face in common":          {"0..5 0..5 0..5", "5..9 0..5 0..5", false, "5 0..5 0..5", "0..9 0..5 0..5"},
		"side by side":              {"0..5 0..5 0..5", "6..9 0..5 0..5", false, "", "0..9 0..5 0..5"},
		"side by side, the second":  {"0..5 0..5 0..5", "0..5 6..9 0..5", false, "", "0..5 0..9 0..5"},
		"side by side, the third":   {"0..5 0..5 0..5", "0..5 0..5 -3..-1", false, "", "0..5 0..5 -3..5"},
		"far from each other":       {"-1000 -1000 -1000", "1000 1000 1000", false, "", "-1000..1000 -1000..1000 -1000..1000"},
		"apart in each side":        {"0..1 0..1 0..1", "3..4 -4..-3 7", false, "", "0..4 -4..1 0..7"},
		"a cross":                   {"0..9 4..5 4..5", "4..5 0..9 4..5", false, "4..5 4..5 4..5", "0..9 0..9 4..5"},
		"points alike":              {"7 8 9", "7 8 9", true, "7 8 9", "7 8 9"},
		"points apart":              {"7 8 9", "7 8 8", false, "", "7 8 8..9"},
		"the greatest and a point":  {"-1000..1000 -1000..1000 -1000..1000", "1000 -1000 1000", true, "1000 -1000 1000", "-1000..1000 -1000..1000 -1000..1000"},
		"the greatest one, twice":   {"-1000..1000 -1000..1000 -1000..1000", "-1000..1000 -1000..1000 -1000..1000", true, "-1000..1000 -1000..1000 -1000..1000", "-1000..1000 -1000..1000 -1000..1000"},
		"nearly the greatest one":   {"-999..1000 -1000..1000 -1000..1000", "-1000..1000 -1000..1000 -1000..1000", false, "-999..1000 -1000..1000 -1000..1000", "-1000..1000 -1000..1000 -1000..1000"},
		"below and above 0":         {"-5..-1 -5..0 -5..1", "-3..3 -3..3 -3..3", false, "-3..-1 -3..0 -3..1", "-5..3 -5..3 -5..3"},
		"a side in common, no more": {"0..5 0..5 0..5", "0..5 7..9 7..9", false, "", "0..5 0..9 0..9"},
	} {
		a, b := box(c.a), box(c.b)
		if is, ok := impl.BoxCovers(a, b); is != c.covers || !ok {
			t.Errorf("%s: BoxCovers = %v, %v", name, is, ok)
		}
		if got, ok := impl.MeetBoxes(a, b); !sameBox(got, box(c.meet)) || ok != (c.meet != "") {
			t.Errorf("%s: MeetBoxes = %v, %v", name, got, ok)
		}
		if got, ok := impl.MeetBoxes(b, a); !sameBox(got, box(c.meet)) || ok != (c.meet != "") {
			t.Errorf("%s: MeetBoxes, turned = %v, %v", name, got, ok)
		}
		if got, ok := impl.HullOf(a, b); !sameBox(got, box(c.hull)) || !ok {
			t.Errorf("%s: HullOf = %v, %v", name, got, ok)
		}
		if got, ok := impl.HullOf(b, a); !sameBox(got, box(c.hull)) || !ok {
			t.Errorf("%s: HullOf, turned = %v, %v", name, got, ok)
		}
	}
}

// takesIn holds two good boxes against the laws of promise 9, and against boxes of cells that are laid out.
func takesIn(t *testing.T, g grid, a, b impl.Box) {
	t.Helper()
	wideA, wideB := g.laid(a), g.laid(b)
	covers, okCovers := impl.BoxCovers(wideA, wideB)
	if covers != wantCovered(b, a) || !okCovers {
		t.Fatalf("BoxCovers(%v, %v) = %v, %v", wideA, wideB, covers, okCovers)
	}
	hull, okHull := impl.HullOf(wideA, wideB)
	if want := g.laid(leastAround(append(cornersOf(a), cornersOf(b)...))); !sameBox(hull, want) || !okHull {
		t.Fatalf("HullOf(%v, %v) = %v, %v; want %v", wideA, wideB, hull, okHull, want)
	}
	if covers != sameBox(hull, wideA) {
		t.Fatalf("%v and %v: covers is %v, the hull %v", wideA, wideB, covers, hull)
	}
	both := placesInBoth(a, b)
	meet, okMeet := impl.MeetBoxes(wideA, wideB)
	var want impl.Box
	if len(both) > 0 {
		want = g.laid(leastAround(both))
	}
	if !sameBox(meet, want) || okMeet != (len(both) > 0) {
		t.Fatalf("MeetBoxes(%v, %v) = %v, %v; want %v", wideA, wideB, meet, okMeet, want)
	}
	for _, one := range []impl.Box{wideA, wideB} {
		if is, ok := impl.BoxCovers(hull, one); !is || !ok {
			t.Fatalf("%v, the hull of %v and %v, does not cover one of them", hull, wideA, wideB)
		}
		if is, ok := impl.BoxCovers(one, meet); is != okMeet || ok != okMeet {
			t.Fatalf("%v, what %v and %v have, is not in one of them", meet, wideA, wideB)
		}
	}
}

func TestTwoBoxesOfAnyKind(t *testing.T) {
	all := boxesOfCells(3)
	for at, g := range threes() {
		for i, a := range all {
			for j, b := range all {
				if at == 0 || (i+j)%7 == at {
					takesIn(t, g, a, b)
				}
			}
		}
	}
}

func TestTwoRandomBoxes(t *testing.T) {
	r := rand.New(rand.NewSource(92))
	g := grid{-1000, -999, -500, -1, 0, 1, 2, 700, 999, 1000, 1001}
	met := 0
	for range 4000 {
		a, b := randomBox(r, 0, g.cells()-1), randomBox(r, 0, g.cells()-1)
		if r.Intn(3) == 0 {
			b = randomBoxIn(r, a)
		}
		takesIn(t, g, a, b)
		met += min(1, len(placesInBoth(a, b)))
	}
	if met < 1000 || met > 3900 {
		t.Error("no test:", met)
	}
}

func TestMeetBoxesHasJustWhatBothHave(t *testing.T) {
	r := rand.New(rand.NewSource(93))
	whole := box("-3..3 -3..3 -3..3")
	none := 0
	for range 300 {
		a, b := randomBox(r, -3, 3), randomBox(r, -3, 3)
		meet, ok := impl.MeetBoxes(a, b)
		if !ok {
			none++
		}
		for _, p := range placesIn(whole) {
			inA, _ := impl.BoxHas(a, p[:])
			inB, _ := impl.BoxHas(b, p[:])
			inMeet, _ := impl.BoxHas(meet, p[:])
			if inMeet != (inA && inB) {
				t.Fatalf("%v and %v: %v is in %v: %v", a, b, p, meet, inMeet)
			}
		}
	}
	if none < 30 || none > 270 {
		t.Error("no test:", none)
	}
}

// Whatever covers both covers the hull.
func TestHullOfIsTheLeastThatCoversBoth(t *testing.T) {
	all := boxesOfCells(3)
	r := rand.New(rand.NewSource(94))
	for range 300 {
		a, b := all[r.Intn(len(all))], all[r.Intn(len(all))]
		hull, _ := impl.HullOf(a, b)
		for _, other := range all {
			overA, _ := impl.BoxCovers(other, a)
			overB, _ := impl.BoxCovers(other, b)
			overHull, ok := impl.BoxCovers(other, hull)
			if overHull != (overA && overB) || !ok {
				t.Fatalf("%v covers %v: %v, %v: %v, their hull %v: %v", other, a, overA, b, overB, hull, overHull)
			}
		}
	}
}

func TestBoxesTakeInInTurn(t *testing.T) {
	r := rand.New(rand.NewSource(95))
	for range 2000 {
		a := randomBox(r, -1000, 1000)
		b := randomBoxIn(r, a)
		c := randomBoxIn(r, b)
		for _, pair := range [][2]impl.Box{{a, a}, {a, b}, {b, c}, {a, c}} {
			if is, ok := impl.BoxCovers(pair[0], pair[1]); !is || !ok {
				t.Fatalf("BoxCovers(%v, %v) = %v, %v", pair[0], pair[1], is, ok)
			}
			if is, _ := impl.BoxCovers(pair[1], pair[0]); is != sameBox(pair[0], pair[1]) {
				t.Fatalf("BoxCovers(%v, %v) = %v", pair[1], pair[0], is)
			}
		}
	}
}

// One side moved by one, at each of the six edges.
func TestBoxCoversAtEachEdge(t *testing.T) {
	for _, text := range []string{"0..9 0..9 0..9", "-999..999 -999..999 -999..999", "5..7 -5..-3 -1..1"} {
		for at := range 3 {
			for _, by := range []struct {
				lo, hi int
				covers bool
			}{
				{-1, 0, false}, {0, 1, false}, {-1, 1, false}, {1, 0, true}, {0, -1, true}, {1, -1, true}, {0, 0, true}, {-1, -1, false}, {1, 1, false},
			} {
				a, b := box(text), box(text)
				b.Sides[at].Lo += by.lo
				b.Sides[at].Hi += by.hi
				if is, ok := impl.BoxCovers(a, b); is != by.covers || !ok {
					t.Errorf("BoxCovers(%v, %v) = %v, %v", a, b, is, ok)
				}
			}
		}
	}
}

func TestTwoBoxesRefused(t *testing.T) {
	refused := func(name string, a, b impl.Box) {
		if is, ok := impl.BoxCovers(a, b); is || ok {
			t.Errorf("%s: BoxCovers = %v, %v", name, is, ok)
		}
		if got, ok := impl.MeetBoxes(a, b); got.Sides != nil || ok {
			t.Errorf("%s: MeetBoxes = %v, %v", name, got, ok)
		}
		if got, ok := impl.HullOf(a, b); got.Sides != nil || ok {
			t.Errorf("%s: HullOf = %v, %v", name, got, ok)
		}
		if got, ok := impl.CutAway(a, b); len(got) != 0 || ok {
			t.Errorf("%s: CutAway = %v, %v", name, got, ok)
		}
	}
	for name, wrong := range wrongBoxes() {
		refused(name+", twice", wrong, wrong)
		for _, good := range goodBoxes() {
			refused(name+", the first", wrong, good)
			refused(name+", the second", good, wrong)
		}
	}
	for _, a := range goodBoxes() {
		for _, b := range goodBoxes() {
			_, okCovers := impl.BoxCovers(a, b)
			_, okHull := impl.HullOf(a, b)
			_, okCut := impl.CutAway(a, b)
			if !okCovers || !okHull || !okCut {
				t.Errorf("%v and %v are refused: %v, %v, %v", a, b, okCovers, okHull, okCut)
			}
		}
	}
}

func TestLeastCoverTable(t *testing.T) {
	const a, b, c, d = "0..9 0..9 0..9", "1..8 1..8 1..8", "2..7 2..7 2..7", "20..30 0..9 0..9"
	for text, want := range map[string][]int{
		"":                              nil,
		a:                               {0},
		a + "," + a:                     {0},
		a + "," + b:                     {0},
		b + "," + a:                     {1},
		a + "," + d:                     {0, 1},
		d + "," + a:                     {0, 1},
		a + "," + b + "," + c:           {0},
		c + "," + b + "," + a:           {2},
		b + "," + a + "," + c:           {1},
		c + "," + a + "," + b:           {1},
		b + "," + c + "," + a + "," + d: {2, 3},
		d + "," + b + "," + d + "," + b: {0, 1},
		b + "," + b + "," + b:           {0},
		b + "," + b + "," + a + "," + b: {2},
		b + "," + a + "," + b + "," + a + "," + c:         {1},
		c + "," + c + "," + b + "," + b + "," + a:         {4},
		a + "," + a + "," + d + "," + d + "," + a:         {0, 2},
		"0 0 0,1 0 0,0 1 0,0 0 1":                         {0, 1, 2, 3},
		"0 0 0,0 0 0,1 0 0,0 0 0,1 0 0":                   {0, 2},
		"0..1 0 0,0 0 0,1 0 0":                            {0},
		"0..1 0 0,1..2 0 0,0..2 0 0":                      {2},
		"0..1 0 0,1..2 0 0,2..3 0 0":                      {0, 1, 2},
		"0..5 0..5 0..5,0..6 0..5 0..4":                   {0, 1},
		"0 0..9 0..9,0..9 0 0..9,0..9 0..9 0,0 0 0":       {0, 1, 2},
		"-1000..1000 -1000..1000 -1000..1000," + a:        {0},
		"1000 1000 1000,-1000 -1000 -1000,1000 1000 1000": {0, 1},
	} {
		got, ok := impl.LeastCover(boxes(text))
		if !slices.Equal(got, want) || !ok {
			t.Errorf("LeastCover(%s) = %v, %v; want %v", text, got, ok, want)
		}
	}
}

// A box that two others take in together, but none of them alone, is needed.
func TestLeastCoverAsksOneAtATime(t *testing.T) {
	l := boxes("0..5 0..9 0..9,6..9 0..9 0..9,3..8 1..2 1..2")
	if got, ok := impl.LeastCover(l); !slices.Equal(got, []int{0, 1, 2}) || !ok {
		t.Errorf("LeastCover = %v, %v", got, ok)
	}
}

func TestLeastCoverOfMaxBoxes(t *testing.T) {
	var inAnother, apart []impl.Box
	var first, each []int
	for i := range 20 {
		inAnother = append(inAnother, impl.Box{Sides: []impl.Side{{Lo: i, Hi: 100 - i}, {Lo: i, Hi: 50}, {Lo: 0, Hi: 100}}})
		apart = append(apart, impl.Box{Sides: []impl.Side{{Lo: 10 * i, Hi: 10*i + 9}, {Lo: 0, Hi: 9}, {Lo: 0, Hi: 9}}})
		each = append(each, i)
	}
	first = []int{0}
	alike := slices.Repeat(boxes("0..9 0..9 0..9"), 20)
	turned := slices.Clone(inAnother)
	slices.Reverse(turned)
	for name, c := range map[string]struct {
		l    []impl.Box
		want []int
	}{
		"in one another": {inAnother, first}, "turned": {turned, []int{19}}, "apart": {apart, each}, "alike": {alike, first},
		"alike, and one around them all":   {append(slices.Clone(alike[:19]), box("0..9 0..9 0..10")), []int{19}},
		"alike, and one in the middle":     {slices.Concat(alike[:9], boxes("-1..9 0..9 0..10"), alike[:10]), []int{9}},
		"alike, and one that they take in": {slices.Concat(boxes("0..9 0..9 0..8"), alike[:19]), []int{1}},
		"19 alone":                         {apart[:19], each[:19]},
	} {
		if got, ok := impl.LeastCover(c.l); !slices.Equal(got, c.want) || !ok {
			t.Errorf("%s: LeastCover = %v, %v; want %v", name, got, ok, c.want)
		}
	}
}

// needed holds what stays and what goes against the laws of promise 9.
func needed(t *testing.T, l []impl.Box, from impl.Box) {
	t.Helper()
	got, ok := impl.LeastCover(l)
	if want := wantNeeded(l); !slices.Equal(got, want) || !ok {
		t.Fatalf("LeastCover(%v) = %v, %v; want %v", l, got, ok, want)
	}
	var stay []impl.Box
	for i, at := range got {
		if i > 0 && got[i-1] >= at {
			t.Fatalf("%v: does not rise", got)
		}
		stay = append(stay, l[at])
	}
	for i, one := range stay {
		for j, other := range stay {
			if is, _ := impl.BoxCovers(one, other); is && i != j {
				t.Fatalf("%v: %v stays beside %v", l, other, one)
			}
		}
	}
	for at, b := range l {
		if slices.Contains(got, at) {
			continue
		}
		by := slices.IndexFunc(got, func(i int) bool { return wantCovered(b, l[i]) && (!sameBox(b, l[i]) || i < at) })
		if by < 0 {
			t.Fatalf("%v: number %d goes, and none that stays covers it", l, at)
		}
	}
	for _, p := range placesIn(from) {
		all, okAll := impl.UnionHas(l, p[:])
		left, okLeft := impl.UnionHas(stay, p[:])
		if all != left || all != wantInAny(p, l) || !okAll || !okLeft {
			t.Fatalf("%v: %v is in all: %v, in those that stay: %v", l, p, all, left)
		}
	}
}

func TestLeastCoverLeavesWhatIsNeeded(t *testing.T) {
	r := rand.New(rand.NewSource(96))
	for range 500 {
		needed(t, randomBoxes(r, 0, 4), box("0..4 0..4 0..4"))
	}
	for range 500 {
		needed(t, randomBoxes(r, -1000, 1000), box("-1..1 999..1000 -1000..-999"))
	}
	few := boxesOfCells(2)
	for range 500 {
		var l []impl.Box
		for range 20 {
			l = append(l, few[r.Intn(len(few))])
		}
		needed(t, l, box("0..1 0..1 0..1"))
	}
}

// All lists of three of a few boxes that are in one another in many ways.
func TestLeastCoverOfThree(t *testing.T) {
	few := boxes("0 0 0,0..1 0 0,0..1 0..1 0,0..2 0..1 0,0..2 0..2 0..2,0 0..1 0,1..2 0 0")
	for _, a := range few {
		for _, b := range few {
			for _, c := range few {
				needed(t, []impl.Box{a, b, c}, box("0..2 0..2 0..2"))
			}
		}
	}
}

func TestUnionHasTable(t *testing.T) {
	l := boxes("0..9 0..9 0,20..30 0 0,5..25 5 0,-1000 -1000 -1000,1000 1000 1000")
	for _, c := range []struct {
		point []int
		want  bool
	}{
		{[]int{0, 0, 0}, true}, {[]int{9, 9, 0}, true}, {[]int{10, 5, 0}, true}, {[]int{10, 6, 0}, false}, {[]int{25, 0, 0}, true},
		{[]int{25, 5, 0}, true}, {[]int{26, 5, 0}, false}, {[]int{30, 0, 0}, true}, {[]int{31, 0, 0}, false}, {[]int{15, 5, 0}, true},
		{[]int{15, 4, 0}, false}, {[]int{-1000, -1000, -1000}, true}, {[]int{-1000, -1000, -999}, false}, {[]int{1000, 1000, 1000}, true},
		{[]int{1000, 999, 1000}, false}, {[]int{0, 0, 1}, false},
	} {
		if is, ok := impl.UnionHas(l, c.point); is != c.want || !ok {
			t.Errorf("UnionHas(%v) = %v, %v", c.point, is, ok)
		}
	}
	for _, point := range goodPoints() {
		if is, ok := impl.UnionHas(nil, point); is || !ok {
			t.Errorf("no boxes: UnionHas(%v) = %v, %v", point, is, ok)
		}
	}
}

// Whichever of twenty boxes has the point, and no other one.
func TestUnionHasInEachPlace(t *testing.T) {
	for many := 1; many <= 20; many++ {
		for at := range many {
			l := slices.Repeat(boxes("0..9 0..9 0..9"), many)
			point := []int{10, 5, 5}
			if is, ok := impl.UnionHas(l, point); is || !ok {
				t.Fatalf("%d boxes: %v, %v", many, is, ok)
			}
			l[at] = box("10 5 5")
			if is, ok := impl.UnionHas(l, point); !is || !ok {
				t.Fatalf("%d boxes, in number %d: %v, %v", many, at, is, ok)
			}
		}
	}
}

func TestCutAwayTable(t *testing.T) {
	for name, c := range map[string]struct{ a, b, want string }{
		"within": {
			"0..9 0..9 0..9", "3..5 4..6 5..7",
			"0..2 0..9 0..9,6..9 0..9 0..9,3..5 0..3 0..9,3..5 7..9 0..9,3..5 4..6 0..4,3..5 4..6 8..9",
		},
		"within, at the low edges":          {"0..9 0..9 0..9", "0..5 0..6 0..7", "6..9 0..9 0..9,0..5 7..9 0..9,0..5 0..6 8..9"},
		"within, at the high edges":         {"0..9 0..9 0..9", "3..9 4..9 5..9", "0..2 0..9 0..9,3..9 0..3 0..9,3..9 4..9 0..4"},
		"within, one point":                 {"0..2 0..2 0..2", "1 1 1", "0 0..2 0..2,2 0..2 0..2,1 0 0..2,1 2 0..2,1 1 0,1 1 2"},
		"around":                            {"3..5 4..6 5..7", "0..9 0..9 0..9", ""},
		"around, by one at one edge":        {"0..9 0..9 0..9", "0..9 0..9 0..10", ""},
		"alike":                             {"0..9 0..9 0..9", "0..9 0..9 0..9", ""},
		"points alike":                      {"1 2 3", "1 2 3", ""},
		"points apart":                      {"1 2 3", "1 2 4", "1 2 3"},
		"beside the first side":             {"0..9 0..9 0..9", "10..19 0..9 0..9", "0..9 0..9 0..9"},
		"beside the second side":            {"0..9 0..9 0..9", "0..9 -9..-1 0..9", "0..9 0..9 0..9"},
		"beside the third side":             {"0..9 0..9 0..9", "0..9 0..9 10", "0..9 0..9 0..9"},
		"beside, and within the others":     {"0..9 0..9 0..9", "3..5 3..5 10..20", "0..9 0..9 0..9"},
		"over the first edge":               {"0..9 0..9 0..9", "-5..3 -5..20 -5..20", "4..9 0..9 0..9"},
		"over the first edge, by one":       {"0..9 0..9 0..9", "-5..0 -5..20 -5..20", "1..9 0..9 0..9"},
		"over the first edge, all but one":  {"0..9 0..9 0..9", "1..20 -5..20 -5..20", "0 0..9 0..9"},
		"over the high edge of the second":  {"0..9 0..9 0..9", "-5..20 7..20 -5..20", "0..9 0..6 0..9"},
		"over the low edge of the third":    {"0..9 0..9 0..9", "-5..20 -5..20 -5..4", "0..9 0..9 5..9"},
		"over one side, through the middle": {"0..9 0..9 0", "2..3 4..20 0", "0..1 0..9 0,4..9 0..9 0,2..3 0..3 0"},
		"through, the first":                {"0..9 0..9 0..9", "-5..20 3..5 3..5", "0..9 0..2 0..9,0..9 6..9 0..9,0..9 3..5 0..2,0..9 3..5 6..9"},
		"through, the second":               {"0..9 0..9 0..9", "3..5 -5..20 3..5", "0..2 0..9 0..9,6..9 0..9 0..9,3..5 0..9 0..2,3..5 0..9 6..9"},
		"through, the third":                {"0..9 0..9 0..9", "3..5 3..5 -5..20", "0..2 0..9 0..9,6..9 0..9 0..9,3..5 0..2 0..9,3..5 6..9 0..9"},
		"a plate":                           {"0..9 0..9 0..9", "-5..20 3..5 -5..20", "0..9 0..2 0..9,0..9 6..9 0..9"},
		"a point in common":                 {"0..5 0..5 0..5", "5..9 5..9 5..9", "0..4 0..5 0..5,5 0..4 0..5,5 5 0..4"},
		"an edge in common":                 {"0..5 0..5 0..5", "5..9 -9..0 0..5", "0..4 0..5 0..5,5 1..5 0..5"},
		"a face in common":                  {"0..5 0..5 0..5", "5..9 0..5 0..5", "0..4 0..5 0..5"},
		"none in common, at a corner":       {"0..5 0..5 0..5", "6..9 6..9 6..9", "0..5 0..5 0..5"},
		"a point out of the greatest": {
			"-1000..1000 -1000..1000 -1000..1000", "0 0 0",
			"-1000..-1 -1000..1000 -1000..1000,1..1000 -1000..1000 -1000..1000,0 -1000..-1 -1000..1000,0 1..1000 -1000..1000,0 0 -1000..-1,0 0 1..1000",
		},
		"a corner out of the greatest": {
			"-1000..1000 -1000..1000 -1000..1000", "-1000 1000 -1000", "-999..1000 -1000..1000 -1000..1000,-1000 -1000..999 -1000..1000,-1000 1000 -999..1000",
		},
		"the greatest out of a point": {"1000 1000 1000", "-1000..1000 -1000..1000 -1000..1000", ""},
		"nearly the greatest":         {"-1000..1000 -1000..1000 -1000..1000", "-1000..1000 -1000..1000 -999..1000", "-1000..1000 -1000..1000 -1000"},
		"all but the edges": {
			"-1000..1000 -1000..1000 -1000..1000", "-999..999 -999..999 -999..999",
			"-1000 -1000..1000 -1000..1000,1000 -1000..1000 -1000..1000,-999..999 -1000 -1000..1000,-999..999 1000 -1000..1000,-999..999 -999..999 -1000,-999..999 -999..999 1000",
		},
	} {
		got, ok := impl.CutAway(box(c.a), box(c.b))
		if !sameBoxes(got, boxes(c.want)) || !ok {
			t.Errorf("%s: CutAway(%s, %s) = %v, %v; want %s", name, c.a, c.b, got, ok, c.want)
		}
	}
}

// cut holds the pieces of a box against the laws of promise 9, and against boxes of cells that are laid out.
func cut(t *testing.T, g grid, a, b impl.Box) {
	t.Helper()
	wideA, wideB := g.laid(a), g.laid(b)
	got, ok := impl.CutAway(wideA, wideB)
	if want := g.laidAll(wantCut(a, b)); !sameBoxes(got, want) || !ok {
		t.Fatalf("CutAway(%v, %v) = %v, %v; want %v", wideA, wideB, got, ok, want)
	}
	if len(got) > 6 {
		t.Fatalf("CutAway(%v, %v): %d boxes", wideA, wideB, len(got))
	}
	left := 0
	for i, one := range got {
		if !impl.GoodBox(one) {
			t.Fatalf("CutAway(%v, %v): %v is not good", wideA, wideB, one)
		}
		if is, _ := impl.BoxCovers(wideA, one); !is {
			t.Fatalf("CutAway(%v, %v): %v is not within the first", wideA, wideB, one)
		}
		for _, other := range append(slices.Clone(got[:i]), wideB) {
			if _, meet := impl.MeetBoxes(one, other); meet {
				t.Fatalf("CutAway(%v, %v): %v and %v have something in common", wideA, wideB, one, other)
			}
		}
		volume, _ := impl.VolumeOf([]impl.Box{one})
		left += volume
	}
	// What is left and what both have is the whole.
	whole, _ := impl.VolumeOf([]impl.Box{wideA})
	common := 0
	if meet, is := impl.MeetBoxes(wideA, wideB); is {
		common, _ = impl.VolumeOf([]impl.Box{meet})
	}
	if left+common != whole {
		t.Fatalf("CutAway(%v, %v): %d points are left of %d, %d are cut away", wideA, wideB, left, whole, common)
	}
}

func TestCutAwayOfAnyKind(t *testing.T) {
	all := boxesOfCells(3)
	for at, g := range threes() {
		for i, a := range all {
			for j, b := range all {
				if at == 0 || (i+j)%7 == at {
					cut(t, g, a, b)
				}
			}
		}
	}
}

func TestCutAwayOfRandomBoxes(t *testing.T) {
	r := rand.New(rand.NewSource(97))
	g := grid{-1000, -999, -500, -1, 0, 1, 2, 700, 999, 1000, 1001}
	pieces := map[int]int{}
	for range 4000 {
		a, b := randomBox(r, 0, g.cells()-1), randomBox(r, 0, g.cells()-1)
		if r.Intn(3) == 0 {
			b = randomBoxIn(r, a)
		}
		cut(t, g, a, b)
		pieces[len(wantCut(a, b))]++
	}
	for many := range 7 {
		if pieces[many] < 10 {
			t.Errorf("no test: %d pieces: %d", many, pieces[many])
		}
	}
}

// Point by point: one is in what is left just if it is in the first and not in the second, and in one piece alone.
func TestCutAwayLeavesEachPointOnce(t *testing.T) {
	r := rand.New(rand.NewSource(98))
	whole := box("-3..3 -3..3 -3..3")
	for range 500 {
		a, b := randomBox(r, -3, 3), randomBox(r, -3, 3)
		got, _ := impl.CutAway(a, b)
		for _, p := range placesIn(whole) {
			inA, _ := impl.BoxHas(a, p[:])
			inB, _ := impl.BoxHas(b, p[:])
			in := 0
			for _, one := range got {
				if is, _ := impl.BoxHas(one, p[:]); is {
					in++
				}
			}
			if in > 1 || (in == 1) != (inA && !inB) {
				t.Fatalf("CutAway(%v, %v) = %v: %v is in %d of them", a, b, got, p, in)
			}
			if is, ok := impl.UnionHas(got, p[:]); is != (inA && !inB) || !ok {
				t.Fatalf("CutAway(%v, %v) = %v: %v is in their union: %v", a, b, got, p, is)
			}
		}
	}
}

func TestVolumeOfTable(t *testing.T) {
	const greatest = "-1000..1000 -1000..1000 -1000..1000"
	for text, want := range map[string]int{
		"":                                             0,
		"0 0 0":                                        1,
		"0 0 0,0 0 0":                                  1,
		"0 0 0,1 0 0":                                  2,
		"0..9 0..9 0":                                  100,
		"0..9 0..9 0,2..3 4..20 0":                     122,
		"0..9 0..9 0,2..3 4..20 0,0..9 0..9 0":         122,
		"2..3 4..20 0,0..9 0..9 0":                     122,
		"0..9 0..9 0..9,10..19 0..9 0..9":              2000,
		"0..9 0..9 0..9,9..18 0..9 0..9":               1900,
		"0..9 0..9 0..9,9..18 9..18 0..9":              1990,
		"0..9 0..9 0..9,9..18 9..18 9..18":             1999,
		"0..9 0..9 0..9,10..19 10..19 10..19":          2000,
		"0..9 0..9 0..9,3..5 3..5 3..5":                1000,
		"3..5 3..5 3..5,0..9 0..9 0..9":                1000,
		"0..9 4..5 4..5,4..5 0..9 4..5,4..5 4..5 0..9": 104,
		"-1 -1 -1,0 0 0,1 1 1":                         3,
		"1000 1000 1000,-1000 -1000 -1000":             2,
		greatest:                                       8012006001,
		greatest + "," + greatest:                      8012006001,
		greatest + ",0..9 0..9 0..9":                   8012006001,
		"0..9 0..9 0..9," + greatest:                   8012006001,
		"-1000..0 -1000..1000 -1000..1000,0..1000 -1000..1000 -1000..1000":              8012006001,
		"-1000..-1 -1000..1000 -1000..1000,1..1000 -1000..1000 -1000..1000":             8008002000,
		"-1000..999 -1000..1000 -1000..1000":                                            8008002000,
		"-1000..1000 -1000..1000 0,0 -1000..1000 -1000..1000":                           2*2001*2001 - 2001,
		"-1000..1000 0 0,0 -1000..1000 0,0 0 -1000..1000":                               6001,
		"-1000..1000 -1000..1000 0,-1000..1000 0 -1000..1000,0 -1000..1000 -1000..1000": 3*2001*2001 - 3*2001 + 1,
	} {
		if got, ok := impl.VolumeOf(boxes(text)); got != want || !ok {
			t.Errorf("VolumeOf(%s) = %d, %v; want %d", text, got, ok, want)
		}
	}
}

// volume takes boxes in the order given, turned, and twice over where there is room.
func volume(t *testing.T, l []impl.Box, want int) {
	t.Helper()
	turned := slices.Clone(l)
	slices.Reverse(turned)
	ways := [][]impl.Box{l, turned}
	if len(l) <= 10 {
		ways = append(ways, append(slices.Clone(l), turned...))
	}
	for _, way := range ways {
		if got, ok := impl.VolumeOf(way); got != want || !ok {
			t.Fatalf("VolumeOf(%v) = %d, %v; want %d", way, got, ok, want)
		}
	}
}

func TestVolumeOfPointByPoint(t *testing.T) {
	r := rand.New(rand.NewSource(99))
	for range 400 {
		l := randomBoxes(r, -3, 3)
		volume(t, l, countedVolume(l))
	}
	for range 100 {
		l := randomBoxes(r, 990, 1000)
		volume(t, l, countedVolume(l))
	}
	for _, a := range boxesOfCells(2) {
		for _, b := range boxesOfCells(2) {
			volume(t, []impl.Box{a, b}, countedVolume([]impl.Box{a, b}))
		}
	}
}

func TestVolumeOfGreatBoxes(t *testing.T) {
	r := rand.New(rand.NewSource(100))
	for range 60 {
		l := randomBoxes(r, -1000, 1000)
		volume(t, l, wantVolume(l))
	}
	for range 20 {
		var l []impl.Box
		for range 20 {
			l = append(l, randomBox(r, -1000, 1000))
		}
		volume(t, l, wantVolume(l))
	}
}

func TestVolumeOfMaxBoxes(t *testing.T) {
	var apart, stairs, rods []impl.Box
	for i := range 20 {
		apart = append(apart, impl.Box{Sides: []impl.Side{{Lo: 10 * i, Hi: 10*i + 9}, {Lo: 0, Hi: 9}, {Lo: 0, Hi: 9}}})
		stairs = append(stairs, impl.Box{Sides: []impl.Side{{Lo: 0, Hi: i}, {Lo: 0, Hi: 19 - i}, {Lo: 0, Hi: 0}}})
		sides := slices.Repeat([]impl.Side{{Lo: -1000 + 90*i, Hi: -960 + 90*i}}, 3)
		sides[i%3] = impl.Side{Lo: -1000, Hi: 1000}
		rods = append(rods, impl.Box{Sides: sides})
	}
	volume(t, apart, 20*1000)
	volume(t, apart[:19], 19*1000)
	volume(t, slices.Repeat(apart[:1], 20), 1000)
	volume(t, stairs, 20*21/2)
	volume(t, rods, wantVolume(rods))
	// Plates that cut the greatest box into as many pieces as twenty boxes can.
	var plates []impl.Box
	for i := range 19 {
		sides := slices.Repeat([]impl.Side{{Lo: -1000, Hi: 1000}}, 3)
		sides[i%3] = impl.Side{Lo: -900 + 90*i, Hi: -880 + 90*i}
		plates = append(plates, impl.Box{Sides: sides})
	}
	volume(t, plates, wantVolume(plates))
	volume(t, append(plates, box("-1000..1000 -1000..1000 -1000..1000")), 8012006001)
	// Twelve edges of a cube.
	edges := boxes("0..9 0 0,0..9 9 0,0..9 0 9,0..9 9 9,0 0..9 0,9 0..9 0,0 0..9 9,9 0..9 9,0 0 0..9,9 0 0..9,0 9 0..9,9 9 0..9")
	volume(t, edges, 8+12*8)
}

func TestListsOfBoxesRefused(t *testing.T) {
	refused := func(name string, l []impl.Box, point []int) {
		t.Helper()
		if got, ok := impl.LeastCover(l); len(got) != 0 || ok {
			t.Errorf("%s: LeastCover = %v, %v", name, got, ok)
		}
		if got, ok := impl.VolumeOf(l); got != 0 || ok {
			t.Errorf("%s: VolumeOf = %v, %v", name, got, ok)
		}
		if got, ok := impl.UnionHas(l, point); got || ok {
			t.Errorf("%s: UnionHas = %v, %v", name, got, ok)
		}
	}
	for name, wrong := range wrongBoxes() {
		for _, many := range []int{1, 2, 5, 20} {
			for _, at := range []int{0, many / 2, many - 1} {
				l := slices.Repeat(boxes("0..9 0..9 0..9"), many)
				l[at] = wrong
				refused(name+" in place "+strconv.Itoa(at)+" of "+strconv.Itoa(many), l, []int{5, 5, 5})
			}
		}
	}
	for _, many := range []int{21, 22, 40, 1000} {
		refused(strconv.Itoa(many)+" alike", slices.Repeat(boxes("0..9 0..9 0..9"), many), []int{5, 5, 5})
	}
	apart := boxes("0..9 0..9 0..9")
	for i := 1; len(apart) < 21; i++ {
		apart = append(apart, impl.Box{Sides: []impl.Side{{Lo: 10 * i, Hi: 10 * i}, {}, {}}})
	}
	refused("21 apart", apart, []int{5, 5, 5})
	if got, ok := impl.VolumeOf(apart[:20]); got != 1019 || !ok {
		t.Errorf("20 apart: VolumeOf = %d, %v", got, ok)
	}
}

func TestUnionHasRefusesWrongPoints(t *testing.T) {
	for name, point := range wrongPoints() {
		for _, l := range [][]impl.Box{nil, {}, goodBoxes(), boxes("0 0 0"), boxes("-1000..1000 -1000..1000 -1000..1000")} {
			if is, ok := impl.UnionHas(l, point); is || ok {
				t.Errorf("%s, %d boxes: UnionHas = %v, %v", name, len(l), is, ok)
			}
		}
	}
}
