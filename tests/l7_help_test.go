package tests

import (
	"math/rand"
	"slices"
	"strings"

	"loop.example/g00333/impl"
)

// filterReader reads (1>3&!2^he), and so on: 1=5, 1<5, 1>5, 2? (has), 2^he (starts), !x, (x&y), (x|y). It does
// not ask whether the filter is a good one, so that wrong ones can be written too.
type filterReader struct {
	notation
	wants []impl.Want
}

const endOfFilter = "$"

func filter(text string) impl.Filter {
	r := &filterReader{notation: notation{text: text + endOfFilter}}
	r.take()
	if r.text != endOfFilter {
		panic("left of a filter: " + r.text)
	}
	return impl.Filter{Wants: r.wants}
}

// take tells the place of the want that it has read.
func (r *filterReader) take() int {
	var w impl.Want
	switch {
	case r.has("!"):
		w = impl.Want{Kind: impl.WantNot, A: r.take()}
	case r.has("("):
		w = impl.Want{Kind: impl.WantOr, A: r.take()}
		if r.has("&") {
			w.Kind = impl.WantAnd
		} else if !r.has("|") {
			panic("no filter: " + r.text)
		}
		w.B = r.take()
		r.has(")")
	default:
		w = r.takeAsking()
	}
	r.wants = append(r.wants, w)
	return len(r.wants) - 1
}

func (r *filterReader) takeAsking() impl.Want {
	const marks = "&|)" + endOfFilter
	w := impl.Want{No: r.number("=<>?^")}
	switch {
	case r.has("?"):
		w.Kind = impl.WantHas
	case r.has("^"):
		w.Kind, w.Text = impl.WantStarts, r.upTo(marks)
	case r.has("="):
		w.Kind, w.Num = impl.WantEq, r.number(marks)
	case r.has("<"):
		w.Kind, w.Num = impl.WantLt, r.number(marks)
	case r.has(">"):
		w.Kind, w.Num = impl.WantGt, r.number(marks)
	}
	return w
}

func sameFilter(a, b impl.Filter) bool {
	return slices.Equal(a.Wants, b.Wants)
}

func wants(l ...impl.Want) impl.Filter {
	return impl.Filter{Wants: l}
}

// wish is a want with those that it has in it: a filter as a tree, which has no places.
type wish struct {
	want impl.Want
	own  []wish
}

// wantWish: the tree of a good filter. It goes from the whole down: each want is to be come to once.
func wantWish(f impl.Filter) (wish, bool) {
	if len(f.Wants) == 0 || len(f.Wants) > 20 {
		return wish{}, false
	}
	x := &wishReader{wants: f.Wants}
	whole := x.take(len(f.Wants) - 1)
	slices.Sort(x.come)
	for at := range f.Wants {
		x.bad = x.bad || at >= len(x.come) || x.come[at] != at
	}
	if x.bad || len(x.come) != len(f.Wants) {
		return wish{}, false
	}
	return whole, true
}

type wishReader struct {
	wants []impl.Want
	come  []int
	bad   bool
}

func (x *wishReader) take(at int) wish {
	x.come = append(x.come, at)
	w := x.wants[at]
	if len(x.come) > len(x.wants) {
		x.bad = true
	}
	var own []int
	alone := impl.Want{Kind: w.Kind}
	switch w.Kind {
	case impl.WantEq, impl.WantLt, impl.WantGt:
		alone.No, alone.Num = w.No, w.Num
		x.bad = x.bad || w.Num < -1000000000 || w.Num > 1000000000
	case impl.WantStarts:
		alone.No, alone.Text = w.No, w.Text
		x.bad = x.bad || len(w.Text) > 30
	case impl.WantHas:
		alone.No = w.No
	case impl.WantAnd, impl.WantOr:
		own = []int{w.A, w.B}
		alone.A, alone.B = w.A, w.B
		x.bad = x.bad || w.A >= w.B
	case impl.WantNot:
		own = []int{w.A}
		alone.A = w.A
	default:
		x.bad = true
	}
	x.bad = x.bad || w != alone || own == nil && (w.No < 1 || w.No > 30)
	read := wish{want: w}
	for _, its := range own {
		if its < 0 || its >= at {
			x.bad = true
		}
		if !x.bad {
			read.own = append(read.own, x.take(its))
		}
	}
	return read
}

func (x wish) alone() bool {
	return len(x.own) == 0
}

// wantFound asks bytes by what they are: those of each field, by its No.
func (x wish) wantFound(by map[int]string) bool {
	w := x.want
	n, isNumber := numberIn(by[w.No])
	switch w.Kind {
	case impl.WantEq:
		return by[w.No] == wireField(number(w.No, w.Num))
	case impl.WantLt:
		return isNumber && n-w.Num < 0
	case impl.WantGt:
		return isNumber && w.Num-n < 0
	case impl.WantHas:
		return by[w.No] != ""
	case impl.WantStarts:
		// The field that is cut to as many bytes as the Text has is a field of the Text.
		tag := wireNumber(uint64(8*w.No + impl.KindBytes))
		rest, isText := strings.CutPrefix(by[w.No], tag)
		text, _ := (&told{}).text(rest)
		return isText && len(text) >= len(w.Text) && wireText(text[:len(w.Text)]) == wireText(w.Text)
	case impl.WantAnd:
		return x.own[0].wantFound(by) && x.own[1].wantFound(by)
	case impl.WantOr:
		return x.own[0].wantFound(by) || x.own[1].wantFound(by)
	}
	return !x.own[0].wantFound(by)
}

// numberIn: of a field's bytes the number, where it is one.
func numberIn(b string) (int, bool) {
	x := &told{}
	tag, rest := x.number(b)
	if x.bad || tag%8 != impl.KindNumber {
		return 0, false
	}
	n, _ := x.folded(rest)
	return n, true
}

func wantMatches(f impl.Filter, b string) (bool, bool) {
	whole, good := wantWish(f)
	by, ok := fieldBytes(b)
	if !good || !ok {
		return false, false
	}
	return whole.wantFound(by), true
}

// all is the want and all that are in it.
func (x wish) all() []wish {
	l := []wish{x}
	for _, own := range x.own {
		l = append(l, own.all()...)
	}
	return l
}

func (x wish) wantNos() []int {
	all := x.all()
	var nos []int
	for no := 1; no <= 30; no++ {
		if slices.ContainsFunc(all, func(its wish) bool { return its.alone() && its.want.No == no }) {
			nos = append(nos, no)
		}
	}
	return nos
}

// wantDepth takes away all wants that have none in them, as often as there are some.
func (x wish) wantDepth() int {
	depth := 1
	for !x.alone() {
		x = x.withoutLast()
		depth++
	}
	return depth
}

func (x wish) withoutLast() wish {
	left := wish{want: x.want}
	for _, own := range x.own {
		if !own.alone() {
			left.own = append(left.own, own.withoutLast())
		}
	}
	return left
}

func wantFilterFits(f impl.Filter, s impl.Schema) (bool, bool) {
	whole, good := wantWish(f)
	if !good || !wantGood(s) {
		return false, false
	}
	types := waysIn(s)
	for _, x := range whole.all() {
		if !x.alone() {
			continue
		}
		kind := types[partStep(x.want.No)].Kind
		may := map[int]string{impl.TypeNumber: "=<>?", impl.TypeEnum: "=<>?", impl.TypeText: "?^", impl.TypeList: "?", impl.TypeMessage: "?"}
		if !strings.Contains(may[kind], string([]byte{" =<>?^"[x.want.Kind]})) {
			return false, true
		}
	}
	return true, true
}

// laidTo is the filter's wants, all that they have being so many places further behind.
func laidTo(f impl.Filter, by int) []impl.Want {
	var l []impl.Want
	for _, w := range f.Wants {
		if w.Kind >= impl.WantAnd {
			w.A += by
		}
		if w.Kind == impl.WantAnd || w.Kind == impl.WantOr {
			w.B += by
		}
		l = append(l, w)
	}
	return l
}

func wantNot(f impl.Filter) (impl.Filter, bool) {
	l := append(laidTo(f, 0), impl.Want{Kind: impl.WantNot, A: len(f.Wants) - 1})
	return goodOnly(impl.Filter{Wants: l})
}

func wantBoth(f, g impl.Filter) (impl.Filter, bool) {
	_, goodF := wantWish(f)
	_, goodG := wantWish(g)
	if !goodF || !goodG {
		return impl.Filter{}, false
	}
	l := slices.Concat(laidTo(f, 0), laidTo(g, len(f.Wants)))
	l = append(l, impl.Want{Kind: impl.WantAnd, A: len(f.Wants) - 1, B: len(l) - 1})
	return goodOnly(impl.Filter{Wants: l})
}

func goodOnly(f impl.Filter) (impl.Filter, bool) {
	if _, good := wantWish(f); !good {
		return impl.Filter{}, false
	}
	return f, true
}

// randomFilter is a good one of so many wants, in any order in which each has all its own ahead of it.
func randomFilter(source *rand.Rand, many int) impl.Filter {
	var f impl.Filter
	var loose []int // the places of those that no want has yet
	for at := range many {
		left := many - at - 1
		w := randomAsking(source)
		switch {
		case len(loose) >= 2 && (len(loose) > left || source.Intn(3) == 0):
			a, b := takeTwo(source, &loose)
			w = impl.Want{Kind: impl.WantAnd + source.Intn(2), A: a, B: b}
		case len(loose) >= 1 && (len(loose) > left || source.Intn(4) == 0):
			i := source.Intn(len(loose))
			w = impl.Want{Kind: impl.WantNot, A: loose[i]}
			loose = slices.Delete(loose, i, i+1)
		}
		f.Wants = append(f.Wants, w)
		loose = append(loose, at)
	}
	return f
}

func takeTwo(source *rand.Rand, loose *[]int) (int, int) {
	l := *loose
	source.Shuffle(len(l), func(i, j int) { l[i], l[j] = l[j], l[i] })
	a, b := l[0], l[1]
	*loose = l[2:]
	return min(a, b), max(a, b)
}

var fewTexts = []string{"", "h", "he", "hel", "a", "\x00", "\xff\xfe"}

// randomAsking is a want that asks one of few fields for little, so that fields are often as it says.
func randomAsking(source *rand.Rand) impl.Want {
	w := impl.Want{Kind: impl.WantEq + source.Intn(5), No: 1 + source.Intn(4)}
	if source.Intn(20) == 0 {
		w.No = 30
	}
	switch w.Kind {
	case impl.WantEq, impl.WantLt, impl.WantGt:
		w.Num = source.Intn(5) - 2
		if source.Intn(20) == 0 {
			w.Num = randomNumber(source)
		}
	case impl.WantStarts:
		w.Text = fewTexts[source.Intn(len(fewTexts))]
		if source.Intn(20) == 0 {
			w.Text = randomText(source, 30)
		}
	}
	return w
}

// randomFew is fields of the Nos that randomAsking asks.
func randomFew(source *rand.Rand) string {
	b := ""
	for _, no := range []int{1, 2, 3, 4, 30} {
		switch source.Intn(5) {
		case 0, 1:
			b += wireField(number(no, source.Intn(5)-2))
		case 2, 3:
			b += wireField(data(no, fewTexts[source.Intn(len(fewTexts))]+[]string{"", "h", "llo"}[source.Intn(3)]))
		}
	}
	return b
}
