package tests

import (
	"math"
	"math/rand"
	"slices"
	"strconv"
	"strings"
	"testing"

	"loop.example/g00333/impl"
)

func TestFilterConstants(t *testing.T) {
	if impl.MaxTerms != 20 || impl.WantEq != 1 || impl.WantLt != 2 || impl.WantGt != 3 || impl.WantHas != 4 {
		t.Error(impl.MaxTerms, impl.WantEq, impl.WantLt, impl.WantGt, impl.WantHas)
	}
	if impl.WantStarts != 5 || impl.WantAnd != 6 || impl.WantOr != 7 || impl.WantNot != 8 {
		t.Error(impl.WantStarts, impl.WantAnd, impl.WantOr, impl.WantNot)
	}
}

func TestFiltersWrittenOut(t *testing.T) {
	for text, l := range map[string][]impl.Want{
		"1=5":   {{Kind: impl.WantEq, No: 1, Num: 5}},
		"2<-5":  {{Kind: impl.WantLt, No: 2, Num: -5}},
		"30>0":  {{Kind: impl.WantGt, No: 30}},
		"3?":    {{Kind: impl.WantHas, No: 3}},
		"4^":    {{Kind: impl.WantStarts, No: 4}},
		"4^he":  {{Kind: impl.WantStarts, No: 4, Text: "he"}},
		"!!1=0": {{Kind: impl.WantEq, No: 1}, {Kind: impl.WantNot}, {Kind: impl.WantNot, A: 1}},
		"(1?&!(2?|3^a))": {
			{Kind: impl.WantHas, No: 1}, {Kind: impl.WantHas, No: 2}, {Kind: impl.WantStarts, No: 3, Text: "a"},
			{Kind: impl.WantOr, A: 1, B: 2}, {Kind: impl.WantNot, A: 3}, {Kind: impl.WantAnd, A: 0, B: 4},
		},
	} {
		if !sameFilter(filter(text), wants(l...)) {
			t.Errorf("no test: the notation of %s", text)
		}
		if !impl.GoodFilter(wants(l...)) {
			t.Errorf("%s is not good", text)
		}
	}
}

// chainOf is so many wants, the first one alone, each other one WantNot of the one ahead.
func chainOf(many int) impl.Filter {
	return filter(strings.Repeat("!", many-1) + "1?")
}

// rowOf is an odd number of wants, WantAnd and WantOr by turns: ((1?&2?)|3?), and so on.
func rowOf(many int) impl.Filter {
	text := "1?"
	for no := 2; 2*no-1 <= many; no++ {
		text = "(" + text + []string{"&", "|"}[no%2] + strconv.Itoa(no) + "?)"
	}
	return filter(text)
}

func goodFilters() []impl.Filter {
	l := []impl.Filter{
		chainOf(1), chainOf(2), chainOf(19), chainOf(20), rowOf(3), rowOf(9), rowOf(11), rowOf(19),
		wants(append(rowOf(19).Wants, impl.Want{Kind: impl.WantNot, A: 18})...),
		// All that ask ahead, and joined from the front or from the back.
		wants(filter("1?").Wants[0], filter("2=1").Wants[0], filter("3^a").Wants[0],
			impl.Want{Kind: impl.WantAnd, A: 0, B: 2}, impl.Want{Kind: impl.WantOr, A: 1, B: 3}),
		wants(filter("1?").Wants[0], filter("2=1").Wants[0], filter("3^a").Wants[0],
			impl.Want{Kind: impl.WantOr, A: 1, B: 2}, impl.Want{Kind: impl.WantAnd, A: 0, B: 3}),
		wants(filter("1?").Wants[0], filter("2=1").Wants[0], impl.Want{Kind: impl.WantNot, A: 0},
			impl.Want{Kind: impl.WantNot, A: 1}, impl.Want{Kind: impl.WantOr, A: 2, B: 3}),
		wants(impl.Want{Kind: impl.WantStarts, No: 30, Text: strings.Repeat("\xff", 30)}),
		wants(impl.Want{Kind: impl.WantStarts, No: 1, Text: "&|)\x00\n"}),
	}
	for _, text := range []string{
		"1=0", "30=0", "1=1000000000", "1=-1000000000", "1<1000000000", "1<-1000000000", "1>1000000000", "1>-1000000000",
		"1=999999999", "1?", "30?", "1^", "30^a", "1^" + strings.Repeat("a", 29), "1^" + strings.Repeat("a", 30),
		"!1=1", "(1=1&1=1)", "(1=1|2=1)", "!(1?&!2?)", "((1<0|1>0)&(2^a|!3?))", "(1?&(2?&(3?&(4?&5?))))", "((((1?|2?)|3?)|4?)|5?)",
	} {
		l = append(l, filter(text))
	}
	return l
}

// wrongWants are wants that are good in no filter, each with another one ahead of it (or two of these).
func wrongWants() map[string]impl.Want {
	l := map[string]impl.Want{
		"an empty want":        {},
		"kind 0":               {Kind: 0, No: 1},
		"kind -1":              {Kind: -1, No: 1},
		"kind 9":               {Kind: 9, No: 1},
		"kind 9, as WantNot":   {Kind: 9, A: 0},
		"kind the least":       {Kind: math.MinInt, No: 1},
		"kind the greatest":    {Kind: math.MaxInt, No: 1},
		"WantStarts with 31":   {Kind: impl.WantStarts, No: 1, Text: strings.Repeat("a", 31)},
		"WantStarts with Num":  {Kind: impl.WantStarts, No: 1, Text: "a", Num: 1},
		"WantStarts with A":    {Kind: impl.WantStarts, No: 1, Text: "a", A: 1},
		"WantStarts with B":    {Kind: impl.WantStarts, No: 1, Text: "a", B: 1},
		"WantHas with Num":     {Kind: impl.WantHas, No: 1, Num: 1},
		"WantHas with Num -1":  {Kind: impl.WantHas, No: 1, Num: -1},
		"WantHas with Text":    {Kind: impl.WantHas, No: 1, Text: "a"},
		"WantHas with A":       {Kind: impl.WantHas, No: 1, A: 1},
		"WantHas with A -1":    {Kind: impl.WantHas, No: 1, A: -1},
		"WantHas with B":       {Kind: impl.WantHas, No: 1, B: 1},
		"WantNot with No":      {Kind: impl.WantNot, No: 1},
		"WantNot with Num":     {Kind: impl.WantNot, Num: 1},
		"WantNot with Text":    {Kind: impl.WantNot, Text: "a"},
		"WantNot with B":       {Kind: impl.WantNot, B: 1},
		"WantNot with B -1":    {Kind: impl.WantNot, B: -1},
		"WantNot of -1":        {Kind: impl.WantNot, A: -1},
		"WantNot of the least": {Kind: impl.WantNot, A: math.MinInt},
		"WantNot of the most":  {Kind: impl.WantNot, A: math.MaxInt},
	}
	for name, kind := range map[string]int{"WantEq": impl.WantEq, "WantLt": impl.WantLt, "WantGt": impl.WantGt} {
		l[name+" beyond the greatest"] = impl.Want{Kind: kind, No: 1, Num: impl.MaxNumber + 1}
		l[name+" beyond the least"] = impl.Want{Kind: kind, No: 1, Num: -impl.MaxNumber - 1}
		l[name+" at the greatest int"] = impl.Want{Kind: kind, No: 1, Num: math.MaxInt}
		l[name+" at the least int"] = impl.Want{Kind: kind, No: 1, Num: math.MinInt}
		l[name+" with Text"] = impl.Want{Kind: kind, No: 1, Num: 1, Text: "a"}
		l[name+" with A"] = impl.Want{Kind: kind, No: 1, Num: 1, A: 1}
		l[name+" with B"] = impl.Want{Kind: kind, No: 1, Num: 1, B: 1}
		l[name+" with B -1"] = impl.Want{Kind: kind, No: 1, Num: 1, B: -1}
	}
	for kind := impl.WantEq; kind <= impl.WantStarts; kind++ {
		for _, no := range []int{0, -1, 31, math.MinInt, math.MaxInt} {
			l["No "+strconv.Itoa(no)+" of kind "+strconv.Itoa(kind)] = impl.Want{Kind: kind, No: no}
		}
	}
	for name, kind := range map[string]int{"WantAnd": impl.WantAnd, "WantOr": impl.WantOr} {
		for what, w := range map[string]impl.Want{
			" with No": {B: 1, No: 1}, " with Num": {B: 1, Num: 1}, " with Text": {B: 1, Text: "a"}, " of one twice": {},
			" of one twice, the second": {A: 1, B: 1}, " with B ahead of A": {A: 1}, " of -1 and one": {A: -1}, " of -1 and the second": {A: -1, B: 1},
			" of one and -1": {B: -1}, " of the least": {A: math.MinInt, B: 1}, " up to the greatest": {B: math.MaxInt},
			" of the greatest": {A: math.MaxInt, B: 1}, " down to the least": {A: 1, B: math.MinInt},
		} {
			w.Kind = kind
			l[name+what] = w
		}
	}
	return l
}

func wrongFilters() map[string]impl.Filter {
	one, other := filter("1?").Wants[0], filter("2=1").Wants[0]
	not := func(a int) impl.Want { return impl.Want{Kind: impl.WantNot, A: a} }
	and := func(a, b int) impl.Want { return impl.Want{Kind: impl.WantAnd, A: a, B: b} }
	or := func(a, b int) impl.Want { return impl.Want{Kind: impl.WantOr, A: a, B: b} }
	l := map[string]impl.Filter{
		"nil":                           {},
		"no wants":                      wants([]impl.Want{}...),
		"21 wants":                      chainOf(21),
		"21 wants in a row":             rowOf(21),
		"41 wants":                      chainOf(41),
		"two that are nobody's":         wants(one, other),
		"one alike that is nobody's":    wants(one, one),
		"the first one nobody's":        wants(one, other, not(1)),
		"the second one nobody's":       wants(one, other, not(0)),
		"one of two and of nobody":      wants(one, not(0), not(0)),
		"a want of two":                 wants(one, not(0), and(0, 1)),
		"a want of two, both WantNot":   wants(one, not(0), not(0), and(1, 2)),
		"a want of two, both two":       wants(one, other, and(0, 1), or(0, 1), or(2, 3)),
		"a want of two, one nobody's":   wants(one, other, one, and(0, 1), and(0, 3)),
		"a want of three":               wants(one, not(0), and(0, 1), or(0, 2)),
		"WantNot of itself":             wants(one, not(1)),
		"WantNot of itself alone":       wants(not(0)),
		"WantNot of one behind":         wants(one, not(2), other),
		"WantNot of one behind, first":  wants(not(1), one),
		"WantNot of each other":         wants(not(1), not(0)),
		"WantNot of each other, behind": wants(one, not(2), not(1)),
		"WantNot beyond the end":        wants(one, not(2)),
		"WantAnd with itself":           wants(one, and(0, 1)),
		"WantOr with itself":            wants(one, or(0, 1)),
		"WantAnd of itself and one":     wants(one, other, and(1, 2), not(0)),
		"WantAnd with one behind":       wants(one, and(0, 2), other),
		"WantOr with one behind":        wants(one, or(0, 2), other),
		"WantAnd of two behind":         wants(and(1, 2), one, other),
		"WantAnd beyond the end":        wants(one, other, and(0, 3)),
		"WantAnd of B and A":            wants(one, other, and(1, 0)),
		"WantOr of B and A":             wants(one, other, or(1, 0)),
		"WantAnd alone":                 wants(and(0, 0)),
		"WantAnd of one alone":          wants(one, and(0, 0)),
		"WantOr of the first alone":     wants(one, or(0, 0)),
		"WantAnd from -1 on":            wants(one, and(-1, 0)),
	}
	for name, w := range wrongWants() {
		l[name+", alone"] = wants(w)
		l[name+", behind one"] = wants(one, w)
		l[name+", behind two"] = wants(one, other, w)
		l[name+", with WantNot behind"] = wants(w, not(0))
		l[name+", with two and WantAnd"] = wants(one, w, and(0, 1))
		l[name+", under two and WantAnd"] = wants(one, other, w, and(1, 2))
		l[name+", at the front of WantOr"] = wants(w, one, or(0, 1))
	}
	return l
}

func TestGoodFilter(t *testing.T) {
	for _, f := range goodFilters() {
		if !impl.GoodFilter(f) {
			t.Errorf("%v is not good", f)
		}
		if _, good := wantWish(f); !good {
			t.Errorf("no test: the tree of %v", f)
		}
	}
	for _, many := range []int{1, 19, 20, 21} {
		if len(chainOf(many).Wants) != many || many%2 == 1 && len(rowOf(many).Wants) != many {
			t.Error("no test: the lengths of chains and rows")
		}
	}
	for name, wrong := range wrongFilters() {
		if impl.GoodFilter(wrong) {
			t.Errorf("%s is good", name)
		}
		if _, good := wantWish(wrong); good {
			t.Errorf("no test: the tree of %s", name)
		}
	}
}

func TestWrongFiltersGiveZeroAnswers(t *testing.T) {
	right, s := filter("1?"), schema("{a:1 num,b:2 num}")
	b := wireOf(number(1, 1), number(2, 1))
	for name, wrong := range wrongFilters() {
		if is, ok := impl.FilterFits(wrong, s); is || ok {
			t.Errorf("%s: FilterFits %v, %v", name, is, ok)
		}
		for _, bytes := range []string{"", b} {
			if is, ok := impl.Matches(wrong, bytes); is || ok {
				t.Errorf("%s: Matches %v, %v", name, is, ok)
			}
		}
		if f, ok := impl.NotFilter(wrong); len(f.Wants) != 0 || ok {
			t.Errorf("%s: NotFilter %v, %v", name, f, ok)
		}
		for _, pair := range [][2]impl.Filter{{wrong, right}, {right, wrong}, {wrong, wrong}} {
			if f, ok := impl.BothFilters(pair[0], pair[1]); len(f.Wants) != 0 || ok {
				t.Errorf("%s: BothFilters %v, %v", name, f, ok)
			}
		}
		if nos, ok := impl.NosOf(wrong); len(nos) != 0 || ok {
			t.Errorf("%s: NosOf %v, %v", name, nos, ok)
		}
		if depth, ok := impl.DepthOf(wrong); depth != 0 || ok {
			t.Errorf("%s: DepthOf %d, %v", name, depth, ok)
		}
	}
}

// asWanted holds a filter, good or not, against what the references tell of it alone.
func asWanted(t *testing.T, f impl.Filter) bool {
	t.Helper()
	whole, good := wantWish(f)
	if impl.GoodFilter(f) != good {
		t.Fatalf("GoodFilter(%v) is not %v", f, good)
	}
	var nos []int
	depth := 0
	if good {
		nos, depth = whole.wantNos(), whole.wantDepth()
	}
	if got, ok := impl.NosOf(f); !slices.Equal(got, nos) || ok != good {
		t.Fatalf("NosOf(%v) = %v, %v; want %v", f, got, ok, nos)
	}
	if got, ok := impl.DepthOf(f); got != depth || ok != good {
		t.Fatalf("DepthOf(%v) = %d, %v; want %d", f, got, ok, depth)
	}
	turned, okTurned := wantNot(f)
	if got, ok := impl.NotFilter(f); !sameFilter(got, turned) || ok != okTurned {
		t.Fatalf("NotFilter(%v) = %v, %v; want %v", f, got, ok, turned)
	}
	return good
}

// All filters of at most three wants, with A and B that are right and wrong.
func TestAllSmallFilters(t *testing.T) {
	all := []impl.Want{filter("1?").Wants[0], filter("2=-1").Wants[0]}
	for a := -1; a <= 3; a++ {
		all = append(all, impl.Want{Kind: impl.WantNot, A: a})
		for b := -1; b <= 3; b++ {
			all = append(all, impl.Want{Kind: impl.WantAnd, A: a, B: b}, impl.Want{Kind: impl.WantOr, A: a, B: b})
		}
	}
	good := 0
	check := func(f impl.Filter) {
		if asWanted(t, f) {
			good++
		}
	}
	for _, first := range all {
		check(wants(first))
		for _, second := range all {
			check(wants(first, second))
			for _, third := range all {
				check(wants(first, second, third))
			}
		}
	}
	// Those that ask: 2; WantNot of these: 2, and again: 2; WantAnd and WantOr of two: 8.
	if good != 14 {
		t.Error("of all small filters are good:", good)
	}
}

// nearlyGoodFilter is the filter with one want changed, left out, or put in.
func nearlyGoodFilter(source *rand.Rand, f impl.Filter) impl.Filter {
	l := slices.Clone(f.Wants)
	at := source.Intn(len(l))
	switch source.Intn(9) {
	case 0:
		l[at].Kind += source.Intn(5) - 2
	case 1:
		l[at].A += source.Intn(3) - 1
	case 2:
		l[at].B += source.Intn(3) - 1
	case 3:
		l[at].No = []int{0, 1, 30, 31, -1}[source.Intn(5)]
	case 4:
		l[at].Num = []int{0, 1, impl.MaxNumber, impl.MaxNumber + 1, -impl.MaxNumber, -impl.MaxNumber - 1}[source.Intn(6)]
	case 5:
		l[at].Text = strings.Repeat("x", []int{0, 1, 30, 31}[source.Intn(4)])
	case 6:
		l = slices.Delete(l, at, at+1)
	case 7:
		l = slices.Insert(l, at, randomAsking(source))
	case 8:
		other := source.Intn(len(l))
		l[at], l[other] = l[other], l[at]
	}
	return impl.Filter{Wants: l}
}

func TestFiltersNearlyGood(t *testing.T) {
	source := rand.New(rand.NewSource(70))
	good, wrong := 0, 0
	for range 30000 {
		f := randomFilter(source, 1+source.Intn(20))
		if !asWanted(t, f) {
			t.Fatalf("no test: %v is not good", f)
		}
		if asWanted(t, nearlyGoodFilter(source, f)) {
			good++
		} else {
			wrong++
		}
	}
	if good < 5000 || wrong < 5000 {
		t.Error("too few of a kind:", good, wrong)
	}
}

// found holds that a good filter tells this of fields, and WantNot of it the other.
func found(t *testing.T, f impl.Filter, b string, want bool) {
	t.Helper()
	if is, ok := impl.Matches(f, b); is != want || !ok {
		t.Errorf("Matches(%v, %x) = %v, %v", f, b, is, ok)
	}
	turned := wants(append(slices.Clone(f.Wants), impl.Want{Kind: impl.WantNot, A: len(f.Wants) - 1})...)
	if is, ok := impl.Matches(turned, b); is == want || !ok {
		t.Errorf("Matches of WantNot of (%v, %x) = %v, %v", f, b, is, ok)
	}
}

func TestWantsOfNumbers(t *testing.T) {
	for _, num := range []int{-impl.MaxNumber, -64, -5, -1, 0, 1, 7, 63, 64, impl.MaxNumber} {
		eq := wants(impl.Want{Kind: impl.WantEq, No: 3, Num: num})
		lt := wants(impl.Want{Kind: impl.WantLt, No: 3, Num: num})
		gt := wants(impl.Want{Kind: impl.WantGt, No: 3, Num: num})
		at := wireOf(number(3, num))
		found(t, eq, at, true)
		found(t, lt, at, false)
		found(t, gt, at, false)
		for _, below := range []int{num - 1, -num - 1, -impl.MaxNumber, 0} {
			if below >= num || below < -impl.MaxNumber {
				continue
			}
			b := wireOf(number(3, below))
			found(t, eq, b, false)
			found(t, lt, b, true)
			found(t, gt, b, false)
		}
		for _, above := range []int{num + 1, -num + 1, impl.MaxNumber, 0} {
			if above <= num || above > impl.MaxNumber {
				continue
			}
			b := wireOf(number(3, above))
			found(t, eq, b, false)
			found(t, lt, b, false)
			found(t, gt, b, true)
		}
		// Bytes are no number, also those that a number would have; nor is what another field has.
		for _, b := range []string{
			"", wireOf(data(3, "")), wireOf(data(3, wireFolded(num))), wireOf(data(3, strconv.Itoa(num))),
			wireOf(number(2, num)), wireOf(number(4, num)), wireOf(number(2, num), number(4, num)),
			wireOf(data(1, wireOf(number(3, num)))), wireOf(data(3, wireOf(number(3, num)))),
		} {
			found(t, eq, b, false)
			found(t, lt, b, false)
			found(t, gt, b, false)
		}
	}
}

// WantNot of a missing field is a match: it is asked by found.
func TestAMissingFieldIsNoMatch(t *testing.T) {
	for _, text := range []string{"3=0", "3<0", "3>0", "3<1000000000", "3>-1000000000", "3?", "3^", "3^a"} {
		for _, b := range []string{
			"", wireOf(number(2, 0)), wireOf(number(4, 0)), wireOf(number(1, 0), number(2, 3), data(4, "3"), number(30, -3)),
			wireOf(data(2, "a")), wireOf(data(4, "a")), wireOf(data(1, wireOf(number(3, 0)))), wireOf(data(1, wireOf(data(3, "a")))),
		} {
			found(t, filter(text), b, false)
		}
	}
	found(t, filter("(3=0|!3=0)"), "", true)
	found(t, filter("(3<1|3>-1)"), "", false)
	found(t, filter("!3^"), "", true)
}

func TestWantHas(t *testing.T) {
	for _, no := range []int{1, 2, 29, 30} {
		f := wants(impl.Want{Kind: impl.WantHas, No: no})
		for _, n := range []int{0, 1, -1, impl.MaxNumber} {
			found(t, f, wireOf(number(no, n)), true)
		}
		for _, text := range []string{"", "a", "\x00", strings.Repeat("x", 300)} {
			found(t, f, wireOf(data(no, text)), true)
		}
		found(t, f, "", false)
		found(t, f, allFields(), true)
		without := ""
		for _, other := range allNos() {
			if other != no {
				found(t, f, wireOf(number(other, no)), false)
				without += wireOf(data(other, "a"))
			}
		}
		found(t, f, without, false)
	}
}

func TestWantStarts(t *testing.T) {
	longest := strings.Repeat("abcdefghij", 3)
	for _, x := range []struct {
		text, data string
		want       bool
	}{
		{"he", "hello", true}, {"he", "he", true}, {"he", "h", false}, {"he", "", false}, {"he", "ha", false}, {"he", "hallo", false},
		{"he", "ehe", false}, {"he", " he", false}, {"he", "He", false}, {"he", "hfe", false}, {"h", "hello", true}, {"hello", "hell", false},
		{"", "", true}, {"", "hello", true}, {"", "\x00", true}, {"\x00", "\x00", true}, {"\x00", "", false}, {"\x00\x00", "\x00", false},
		{"\xff", "\xff\xfe", true}, {"\xff", "\xfe", false}, {"\xc3", "é", true}, {"é", "\xc3", false}, {"a", strings.Repeat("a", 397), true},
		{longest, longest, true}, {longest, longest + "k", true}, {longest, longest[:29], false}, {longest, longest[:29] + "k", false},
		{longest, longest[:29] + "k" + longest, false}, {longest, "b" + longest[1:], false},
	} {
		f := wants(impl.Want{Kind: impl.WantStarts, No: 1, Text: x.text})
		found(t, f, wireOf(data(1, x.data)), x.want)
		if len(x.data) < 100 {
			found(t, f, wireOf(data(1, x.data), data(2, "x"), number(30, 7)), x.want)
		}
	}
	for _, text := range []string{"", "a", "\x00", "\x0a", "5", "\x08"} {
		f := wants(impl.Want{Kind: impl.WantStarts, No: 1, Text: text})
		for _, n := range []int{0, 5, -5, 97} {
			found(t, f, wireOf(number(1, n)), false)
			found(t, f, wireOf(number(1, n), data(2, text)), false)
		}
	}
}

func TestWantsOfWants(t *testing.T) {
	// The first field is there or not, and so is the second: what each tells is known.
	fields := []string{"", wireOf(number(1, 0)), wireOf(data(2, "")), wireOf(number(1, 0), data(2, ""))}
	for text, want := range map[string][4]bool{
		"1?":                        {false, true, false, true},
		"2?":                        {false, false, true, true},
		"!1?":                       {true, false, true, false},
		"!!1?":                      {false, true, false, true},
		"!2?":                       {true, true, false, false},
		"(1?&2?)":                   {false, false, false, true},
		"(2?&1?)":                   {false, false, false, true},
		"(1?|2?)":                   {false, true, true, true},
		"(2?|1?)":                   {false, true, true, true},
		"!(1?&2?)":                  {true, true, true, false},
		"!(1?|2?)":                  {true, false, false, false},
		"(!1?&2?)":                  {false, false, true, false},
		"(1?&!2?)":                  {false, true, false, false},
		"(!1?|2?)":                  {true, false, true, true},
		"(1?|!2?)":                  {true, true, false, true},
		"(1?&!1?)":                  {false, false, false, false},
		"(1?|!1?)":                  {true, true, true, true},
		"((1?&!2?)|(!1?&2?))":       {false, true, true, false},
		"((1?|!2?)&(!1?|2?))":       {true, false, false, true},
		"(1=0&2^)":                  {false, false, false, true},
		"(1=0|2^)":                  {false, true, true, true},
		"((1?|2?)&3?)":              {false, false, false, false},
		"(3?|(1?|2?))":              {false, true, true, true},
		"((1?&2?)|(1?&(2?|!3?)))":   {false, true, false, true},
		"(3?|(3?|(3?|(3?|1?))))":    {false, true, false, true},
		"((((2?&!3?)&2?)&2?)&!!2?)": {false, false, true, true},
	} {
		for i, b := range fields {
			found(t, filter(text), b, want[i])
		}
	}
	// The wants' places, not their order, tell what each has: (0 & 2) | 1, (1 | 2) & 0.
	first, second, third := filter("1?").Wants[0], filter("2?").Wants[0], filter("1=0").Wants[0]
	either := wants(first, second, third, impl.Want{Kind: impl.WantAnd, A: 0, B: 2}, impl.Want{Kind: impl.WantOr, A: 1, B: 3})
	both := wants(first, second, third, impl.Want{Kind: impl.WantOr, A: 1, B: 2}, impl.Want{Kind: impl.WantAnd, A: 0, B: 3})
	for i, b := range fields {
		found(t, either, b, i > 0)
		found(t, both, b, i%2 == 1)
	}
}

func TestMatchesAtTheEnds(t *testing.T) {
	// All thirty fields, and each alone.
	for _, no := range allNos() {
		f := wants(impl.Want{Kind: impl.WantEq, No: no, Num: no})
		found(t, f, allFields(), true)
		found(t, f, wireOf(number(no, no)), true)
		found(t, f, wireOf(number(31-no, no)), false)
	}
	longest := wireOf(data(1, strings.Repeat("a", 397)))
	nearly := wireOf(number(1, 5), data(2, strings.Repeat("b", 395)))
	if len(longest) != impl.MaxWire || len(nearly) != impl.MaxWire {
		t.Fatal("no test: the lengths of bytes", len(longest), len(nearly))
	}
	found(t, filter("1^aaa"), longest, true)
	found(t, filter("1^ab"), longest, false)
	found(t, filter("(1=5&2^bbb)"), nearly, true)
	// As many wants as can be: found would have one more.
	for many, want := range map[int]bool{19: true, 20: false} {
		for b, is := range map[string]bool{"": !want, wireOf(number(1, 0)): want} {
			if got, ok := impl.Matches(chainOf(many), b); got != is || !ok {
				t.Errorf("Matches of %d wants, %x: %v, %v", many, b, got, ok)
			}
		}
	}
	found(t, rowOf(19), wireOf(number(9, 0), number(10, 0)), true)
	found(t, rowOf(19), wireOf(number(8, 0), number(10, 0)), false)
	found(t, rowOf(19), wireOf(number(9, 0)), false)
}

// wrongBytes are no fields of chapter 5.
func wrongBytes() map[string]string {
	return map[string]string{
		"two that do not rise":       wireOf(number(2, 1), number(1, 1)),
		"the last one does not rise": wireOf(number(1, 1), number(3, 1), data(2, "a")),
		"two of one No":              wireOf(number(1, 1), number(1, 1)),
		"two of one No, unlike":      wireOf(number(1, 1), data(1, "a")),
		"MaxWire and one more":       wireOf(data(1, strings.Repeat("a", 398))),
		"many more":                  wireOf(data(1, strings.Repeat("a", 1<<16))),
		"a tag alone":                "\x08",
		"a tag alone behind":         wireOf(number(1, 1)) + "\x10",
		"no No":                      "\x00\x02",
		"No 31":                      wireOf(number(31, 1)),
		"No 31 behind":               wireOf(number(1, 1), number(31, 1)),
		"a kind 1":                   "\x09\x02",
		"a kind 3":                   "\x0b\x02",
		"too few bytes":              "\x0a\x03ab",
		"a needless nought":          "\x08\x82\x00",
		"a needless nought, tag":     "\x88\x00\x02",
		"a number too great":         "\x08" + wireNumber(greatestVarint),
		"bytes of no kind":           "\xff\xff\xff",
		"a byte behind":              wireOf(number(1, 1), data(2, "a")) + "\x00",
	}
}

func TestMatchesOfWrongBytes(t *testing.T) {
	for name, b := range wrongBytes() {
		if _, ok := fieldBytes(b); ok {
			t.Errorf("no test: %s are fields", name)
		}
		for _, text := range []string{"1?", "!1?", "1=1", "(1?|!1?)", "30?", "!30?", "1^a"} {
			if is, ok := impl.Matches(filter(text), b); is || ok {
				t.Errorf("%s: Matches of %s: %v, %v", name, text, is, ok)
			}
		}
	}
}

// What is in a field need not be any fields, unlike the whole.
func TestMatchesDoesNotLookIntoFields(t *testing.T) {
	for name, inner := range wrongBytes() {
		if len(inner) > 300 {
			continue
		}
		b := wireOf(data(2, inner), number(3, 1))
		if is, ok := impl.Matches(filter("(3=1&!1?)"), b); !is || !ok {
			t.Errorf("%s in a field: %v, %v", name, is, ok)
		}
	}
}

// turnedTells holds what promise 7 says of one filter.
func turnedTells(t *testing.T, f impl.Filter, b string) bool {
	t.Helper()
	want, _ := wantMatches(f, b)
	is, ok := impl.Matches(f, b)
	if is != want || !ok {
		t.Fatalf("Matches(%v, %x) = %v, %v; want %v", f, b, is, ok, want)
	}
	turned, ok := impl.NotFilter(f)
	if len(f.Wants) == impl.MaxTerms {
		if ok || len(turned.Wants) != 0 {
			t.Fatalf("NotFilter of %d wants: %v, %v", len(f.Wants), turned, ok)
		}
		return is
	}
	if other, okOther := impl.Matches(turned, b); !ok || other == is || !okOther || !impl.GoodFilter(turned) {
		t.Fatalf("NotFilter(%v) = %v, %v: of %x it tells %v, %v", f, turned, ok, b, other, okOther)
	}
	return is
}

// bothTell holds what promise 7 says of two filters.
func bothTell(t *testing.T, f, g impl.Filter, b string) (bool, bool) {
	t.Helper()
	one, _ := impl.Matches(f, b)
	other, _ := impl.Matches(g, b)
	want, okWant := wantBoth(f, g)
	both, ok := impl.BothFilters(f, g)
	if !sameFilter(both, want) || ok != okWant || ok != impl.GoodFilter(both) {
		t.Fatalf("BothFilters(%v, %v) = %v, %v; want %v, %v", f, g, both, ok, want, okWant)
	}
	if ok != (len(f.Wants)+len(g.Wants)+1 <= impl.MaxTerms) {
		t.Fatalf("BothFilters of %d and %d wants: %v", len(f.Wants), len(g.Wants), ok)
	}
	if is, okIs := impl.Matches(both, b); okIs != ok || is != (ok && one && other) {
		t.Fatalf("BothFilters(%v, %v) tells %v, %v of %x; each %v, %v", f, g, is, okIs, b, one, other)
	}
	return ok, ok && one && other
}

func TestWhatIsTurnedTellsTheOther(t *testing.T) {
	source := rand.New(rand.NewSource(71))
	for _, f := range goodFilters() {
		for range 20 {
			turnedTells(t, f, randomFew(source))
		}
		turnedTells(t, f, "")
		turnedTells(t, f, allFields())
	}
	told := map[bool]int{}
	for range 20000 {
		f := randomFilter(source, 1+source.Intn(20))
		told[turnedTells(t, f, randomFew(source))]++
	}
	if told[true] < 5000 || told[false] < 5000 {
		t.Error("too few of a kind:", told)
	}
}

func TestBothTellWhatEachTells(t *testing.T) {
	source := rand.New(rand.NewSource(72))
	for _, f := range goodFilters() {
		for _, g := range goodFilters() {
			for _, b := range []string{"", allFields(), randomFew(source)} {
				bothTell(t, f, g, b)
			}
		}
	}
	room, is := map[bool]int{}, map[bool]int{}
	for range 20000 {
		f, g := randomFilter(source, 1+source.Intn(12)), randomFilter(source, 1+source.Intn(12))
		ok, both := bothTell(t, f, g, randomFew(source))
		room[ok]++
		is[both]++
	}
	if room[true] < 5000 || room[false] < 500 || is[true] < 1000 || is[false] < 1000 {
		t.Error("too few of a kind:", room, is)
	}
}

// One of two is not both of what is turned: NotFilter and BothFilters together make each WantOr.
func TestTurnedBothTellOneOfTwo(t *testing.T) {
	source := rand.New(rand.NewSource(73))
	for range 5000 {
		f, g := randomFilter(source, 1+source.Intn(8)), randomFilter(source, 1+source.Intn(8))
		notF, okF := impl.NotFilter(f)
		notG, okG := impl.NotFilter(g)
		neither, okBoth := impl.BothFilters(notF, notG)
		either, ok := impl.NotFilter(neither)
		if !okF || !okG || !okBoth || !ok {
			t.Fatal("no room", len(f.Wants), len(g.Wants))
		}
		b := randomFew(source)
		one, _ := impl.Matches(f, b)
		other, _ := impl.Matches(g, b)
		if is, ok := impl.Matches(either, b); is != (one || other) || !ok {
			t.Fatalf("of %x: %v, %v; each %v, %v", b, is, ok, one, other)
		}
	}
}

func TestNotFilterWrittenOut(t *testing.T) {
	for text, want := range map[string]string{
		"1=5": "!1=5", "!1=5": "!!1=5", "(1?&2^he)": "!(1?&2^he)", "(1<1|!2>-1)": "!(1<1|!2>-1)",
	} {
		if got, ok := impl.NotFilter(filter(text)); !sameFilter(got, filter(want)) || !ok {
			t.Errorf("NotFilter(%s) = %v, %v", text, got, ok)
		}
	}
	if got, ok := impl.NotFilter(chainOf(19)); !sameFilter(got, chainOf(20)) || !ok {
		t.Errorf("NotFilter of 19 wants = %v, %v", got, ok)
	}
	if got, ok := impl.NotFilter(chainOf(20)); len(got.Wants) != 0 || ok {
		t.Errorf("NotFilter of 20 wants = %v, %v", got, ok)
	}
}

func TestBothFiltersWrittenOut(t *testing.T) {
	for _, x := range [][3]string{
		{"1=5", "2?", "(1=5&2?)"},
		{"2?", "1=5", "(2?&1=5)"},
		{"1?", "1?", "(1?&1?)"},
		{"!1?", "!2?", "(!1?&!2?)"},
		{"(1?|2?)", "(3?&4^a)", "((1?|2?)&(3?&4^a))"},
		{"1>-5", "(!3?|(4<4&5?))", "(1>-5&(!3?|(4<4&5?)))"},
	} {
		if got, ok := impl.BothFilters(filter(x[0]), filter(x[1])); !sameFilter(got, filter(x[2])) || !ok {
			t.Errorf("BothFilters(%s, %s) = %v, %v", x[0], x[1], got, ok)
		}
	}
	for _, x := range []struct {
		f, g int
		ok   bool
	}{{1, 1, true}, {1, 18, true}, {18, 1, true}, {9, 10, true}, {10, 9, true}, {1, 19, false}, {19, 1, false}, {10, 10, false}, {20, 1, false}, {1, 20, false}, {20, 20, false}} {
		got, ok := impl.BothFilters(chainOf(x.f), chainOf(x.g))
		if ok != x.ok || ok && len(got.Wants) != x.f+x.g+1 || !ok && len(got.Wants) != 0 {
			t.Errorf("BothFilters of %d and %d wants: %v, %v", x.f, x.g, got, ok)
		}
	}
}

func TestNosOf(t *testing.T) {
	for text, want := range map[string][]int{
		"1=5": {1}, "30^a": {30}, "7?": {7}, "!7?": {7}, "(1?&2?)": {1, 2}, "(2?|1?)": {1, 2}, "(1?&1=1)": {1}, "(1<1|1>1)": {1},
		"((30?|1?)&(2=1|30^))": {1, 2, 30}, "(((5?&4?)&3?)&(2?&1?))": {1, 2, 3, 4, 5}, "(9?&(9?&(8?&(9?|8?))))": {8, 9},
		"(1=30&2<20)": {1, 2}, "(10?|9?)": {9, 10},
	} {
		if got, ok := impl.NosOf(filter(text)); !slices.Equal(got, want) || !ok {
			t.Errorf("NosOf(%s) = %v, %v; want %v", text, got, ok, want)
		}
	}
	if got, ok := impl.NosOf(rowOf(19)); !slices.Equal(got, []int{1, 2, 3, 4, 5, 6, 7, 8, 9, 10}) || !ok {
		t.Errorf("NosOf of ten = %v, %v", got, ok)
	}
}

func TestDepthOf(t *testing.T) {
	for text, want := range map[string]int{
		"1=5": 1, "1?": 1, "1^a": 1, "!1?": 2, "!!1?": 3, "(1?&2?)": 2, "(1?|2?)": 2, "!(1?|2?)": 3, "(!1?|2?)": 3, "(1?|!2?)": 3,
		"((1?&2?)&3?)": 3, "(1?&(2?&3?))": 3, "((1?&2?)|(3?&4?))": 3, "(!!!1?&2?)": 5, "(1?&!!!2?)": 5, "(!!1?&!2?)": 4, "(!1?&!!2?)": 4,
		"(((1?&2?)&3?)|!!!!4?)": 6, "(!!!!4?|((1?&2?)&3?))": 6, "((1?&!!2?)&3?)": 5,
	} {
		if got, ok := impl.DepthOf(filter(text)); got != want || !ok {
			t.Errorf("DepthOf(%s) = %d, %v; want %d", text, got, ok, want)
		}
	}
	for _, many := range []int{1, 2, 19, 20} {
		if got, ok := impl.DepthOf(chainOf(many)); got != many || !ok {
			t.Errorf("DepthOf of a chain of %d = %d, %v", many, got, ok)
		}
	}
	if got, ok := impl.DepthOf(rowOf(19)); got != 10 || !ok {
		t.Errorf("DepthOf of a row of 19 = %d, %v", got, ok)
	}
}

// fits holds that a filter fits a schema, or not, and WantNot of it likewise, as that one has no No.
func fits(t *testing.T, f impl.Filter, s impl.Schema, want bool) {
	t.Helper()
	if is, ok := impl.FilterFits(f, s); is != want || !ok {
		t.Errorf("FilterFits(%v, %v) = %v, %v", f, s, is, ok)
	}
	turned, _ := wantNot(f)
	if is, ok := impl.FilterFits(turned, s); is != want || !ok {
		t.Errorf("FilterFits of WantNot of (%v, %v) = %v, %v", f, s, is, ok)
	}
}

func TestFilterFitsByKind(t *testing.T) {
	s := schema("{n:1 num,t:2 text,e:3 enum(4),l:4 [num],k:5 [text],m:6 {o:7 num,p:8 text},z:9 enum(0),q:30! num,d:10 [[text]]}")
	s = byNo(s)
	kinds := map[int]string{1: "=<>?", 2: "?^", 3: "=<>?", 4: "?", 5: "?", 6: "?", 7: "", 8: "", 9: "=<>?", 10: "?", 11: "", 29: "", 30: "=<>?"}
	for no, may := range kinds {
		for kind := impl.WantEq; kind <= impl.WantStarts; kind++ {
			want := strings.Contains(may, string([]byte{" =<>?^"[kind]}))
			fits(t, wants(impl.Want{Kind: kind, No: no}), s, want)
		}
	}
	// What is asked for need not be one of the type's values.
	fits(t, filter("(3=5|9<-7)"), s, true)
	fits(t, filter("(1=1000000000&2^"+strings.Repeat("a", 30)+")"), s, true)
}

func TestFilterFitsAllWants(t *testing.T) {
	s := schema("{n:1 num,t:2 text,m:6 {t:2 num,o:7 num,n:8 text}}")
	for text, want := range map[string]bool{
		"(1=1&2^a)": true, "(1=1|2^a)": true, "(1=1&1=2)": true, "(1^a|1=1)": false, "(1=1|1^a)": false, "(7=1|1=1)": false, "(1=1|7=1)": false,
		"(1?&(2?&6?))": true, "(1?&(2?&3?))": false, "(3?&(2?&1?))": false, "((1?|7?)|2?)": false, "(1=1&2=1)": false, "(2=1&1=1)": false,
		"(6?&8?)": false, "(6?&8^a)": false, "!(1<1&!(1>1|!2^a))": true, "!(1<1&!(1>1|!2>1))": false,
	} {
		fits(t, filter(text), s, want)
	}
	fits(t, filter("1?"), schema("{}"), false)
	fits(t, filter("1?"), wideSchema(29), true)
	fits(t, rowOf(19), wideSchema(10), true)
	fits(t, rowOf(19), wideSchema(9), false)
	if is, ok := impl.FilterFits(chainOf(20), wideSchema(1)); !is || !ok {
		t.Errorf("FilterFits of 20 wants: %v, %v", is, ok)
	}
}

func TestFilterFitsOfWrongSchemas(t *testing.T) {
	for i, s := range wrongSchemas() {
		for _, text := range []string{"1?", "2?", "1=1", "1^a", "30?"} {
			if is, ok := impl.FilterFits(filter(text), s); is || ok {
				t.Errorf("schema %d: FilterFits of %s: %v, %v", i, text, is, ok)
			}
		}
	}
}

func TestFilterFitsOfManySchemas(t *testing.T) {
	source := rand.New(rand.NewSource(74))
	told := map[bool]int{}
	for range 20000 {
		s := randomGoodSchema(source)
		f := randomFilter(source, 1+source.Intn(5))
		want, okWant := wantFilterFits(f, s)
		is, ok := impl.FilterFits(f, s)
		if is != want || ok != okWant || !ok {
			t.Fatalf("FilterFits(%v, %v) = %v, %v; want %v, %v", f, s, is, ok, want, okWant)
		}
		told[is]++
	}
	if told[true] < 1000 || told[false] < 1000 {
		t.Error("too few of a kind:", told)
	}
}

// What a filter that fits asks for is there in what valid bytes tell: of all parts by their kinds.
func TestAFilterThatFitsAsksValues(t *testing.T) {
	s := schema("{n:1! num,t:2! text,e:3! enum(4),l:4! [num]}")
	b, ok := impl.EncodeValue(value("{1:-5,2:'hello',3:4,4:[1,2]}"), s)
	if !ok {
		t.Fatal("no test: the value's bytes")
	}
	for text, want := range map[string]bool{
		"1=-5": true, "1<-4": true, "1>-5": false, "2^hel": true, "2^hex": false, "3=4": true, "3>4": false, "3>3": true, "4?": true,
		"((1=-5&2^hello)&(3=4&4?))": true, "((1=-5&2^hello)&(3=3&4?))": false,
	} {
		fits(t, filter(text), s, true)
		found(t, filter(text), b, want)
	}
}
