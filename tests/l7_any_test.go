package tests

import (
	"maps"
	"math"
	"slices"
	"strings"
	"sync"
	"testing"
	"unsafe"

	"loop.example/g00333/impl"
)

func anyFilters() []impl.Filter {
	one := filter("1?").Wants[0]
	l := []impl.Filter{
		{}, {Wants: []impl.Want{}}, {Wants: make([]impl.Want, 1)}, {Wants: make([]impl.Want, 20)}, {Wants: make([]impl.Want, 21)},
		{Wants: make([]impl.Want, 1<<16)}, {Wants: slices.Repeat([]impl.Want{one}, 1<<16)}, chainOf(1 << 8),
		{Wants: slices.Repeat([]impl.Want{{Kind: impl.WantNot}}, 20)}, {Wants: slices.Repeat([]impl.Want{{Kind: impl.WantAnd, B: 1}}, 20)},
	}
	for _, n := range append(anyNumbers(), 20, 21) {
		l = append(l,
			wants(impl.Want{Kind: n, No: 1}),
			wants(impl.Want{Kind: n, No: n, Num: n, A: n, B: n}),
			wants(one, impl.Want{Kind: n}),
			wants(one, impl.Want{Kind: impl.WantNot, A: n}),
			wants(one, impl.Want{Kind: impl.WantNot, B: n}),
			wants(one, one, impl.Want{Kind: impl.WantAnd, A: n, B: 1}),
			wants(one, one, impl.Want{Kind: impl.WantAnd, A: 0, B: n}),
			wants(one, one, impl.Want{Kind: impl.WantOr, A: n, B: n}),
			wants(one, one, impl.Want{Kind: impl.WantOr, A: n - 1, B: n}),
			wants(impl.Want{Kind: impl.WantAnd, A: n, B: n}),
		)
		for kind := impl.WantEq; kind <= impl.WantStarts; kind++ {
			l = append(l, wants(impl.Want{Kind: kind, No: n}), wants(impl.Want{Kind: kind, No: 1, Num: n}),
				wants(impl.Want{Kind: kind, No: 1, A: n}), wants(impl.Want{Kind: kind, No: 1, B: n}))
		}
	}
	for _, text := range anyTexts() {
		for kind := impl.WantEq; kind <= impl.WantNot; kind++ {
			l = append(l, wants(impl.Want{Kind: kind, No: 1, Text: text}), wants(one, impl.Want{Kind: kind, Text: text}))
		}
	}
	wrong := wrongFilters()
	for _, name := range slices.Sorted(maps.Keys(wrong)) {
		l = append(l, wrong[name])
	}
	return append(l, goodFilters()...)
}

// behindWants lays marks behind a list's length: they are neither to be read, nor written, nor handed out. The
// first one would make the filter another good one.
func behindWants(f impl.Filter) (impl.Filter, []impl.Want) {
	mark := impl.Want{Kind: impl.WantHas, No: 29}
	memory := append(slices.Clone(f.Wants), impl.Want{Kind: impl.WantNot, A: len(f.Wants) - 1}, mark, mark)
	return impl.Filter{Wants: memory[:len(f.Wants)]}, memory
}

// A panic in any of these fails the test by itself.
func TestFiltersAnswerAtAnyFilters(t *testing.T) {
	good := 0
	for i, f := range anyFilters() {
		given, memory := behindWants(f)
		before := slices.Clone(memory)
		if asWanted(t, given) {
			good++
		}
		if !slices.Equal(memory, before) {
			t.Fatalf("filter %d was written into", i)
		}
	}
	if good < 50 {
		t.Error("too few are good:", good)
	}
}

func TestBothFiltersAnswersAtAnyTwoFilters(t *testing.T) {
	all := anyFilters()
	few := append(goodFilters(), impl.Filter{}, chainOf(21), impl.Filter{Wants: make([]impl.Want, 20)},
		wants(filter("1?").Wants[0], impl.Want{Kind: impl.WantNot, A: math.MinInt}),
		wants(impl.Want{Kind: impl.WantNot, A: math.MaxInt}))
	room := 0
	for i, x := range all {
		f, memoryF := behindWants(x)
		beforeF := slices.Clone(memoryF)
		for j, y := range few {
			g, memoryG := behindWants(y)
			beforeG := slices.Clone(memoryG)
			for _, pair := range [][2]impl.Filter{{f, g}, {g, f}, {f, f}} {
				want, okWant := wantBoth(pair[0], pair[1])
				got, ok := impl.BothFilters(pair[0], pair[1])
				if !sameFilter(got, want) || ok != okWant {
					t.Errorf("filters %d, %d: BothFilters %v, %v; want %v, %v", i, j, got, ok, want, okWant)
				}
				if ok {
					room++
				}
			}
			if !slices.Equal(memoryF, beforeF) || !slices.Equal(memoryG, beforeG) {
				t.Fatalf("filters %d, %d: one was written into", i, j)
			}
		}
	}
	if room < 1000 {
		t.Error("too few have room:", room)
	}
}

func TestMatchesAnswersAtAnyFiltersAndBytes(t *testing.T) {
	texts := append(anyBytes(), allFields(), wireOf(number(1, 5), data(2, "hello")), wireOf(number(1, -impl.MaxNumber), number(30, 0)))
	wrong := wrongBytes()
	for _, name := range slices.Sorted(maps.Keys(wrong)) {
		texts = append(texts, wrong[name])
	}
	told := map[bool]int{}
	for i, f := range anyFilters() {
		given, memory := behindWants(f)
		before := slices.Clone(memory)
		for _, b := range texts {
			want, okWant := wantMatches(f, b)
			is, ok := impl.Matches(given, b)
			if is != want || ok != okWant {
				t.Errorf("filter %d, %d bytes: Matches %v, %v; want %v, %v", i, len(b), is, ok, want, okWant)
			}
			if ok {
				told[is]++
			}
		}
		if !slices.Equal(memory, before) {
			t.Fatalf("filter %d was written into", i)
		}
	}
	if told[true] < 100 || told[false] < 100 {
		t.Error("too few of a kind:", told)
	}
}

func TestFilterFitsAnswersAtAnyFiltersAndSchemas(t *testing.T) {
	schemas := anySchemas()
	few := []impl.Schema{{}, schema("{}"), schema("{a:1 num}"), schema("{a:1! text,b:2 num}"), fullSchema(), wideSchema(29), schemas[len(schemas)-2]}
	told := map[bool]int{}
	check := func(f impl.Filter, s impl.Schema) {
		t.Helper()
		given, memory := behindWants(f)
		beforeWants := slices.Clone(memory)
		held, types := behind(s)
		beforeTypes := slices.Clone(types)
		want, okWant := wantFilterFits(f, s)
		is, ok := impl.FilterFits(given, held)
		if is != want || ok != okWant {
			t.Errorf("FilterFits of %d wants, %d types: %v, %v; want %v, %v", len(f.Wants), len(s.Types), is, ok, want, okWant)
		}
		if !slices.Equal(memory, beforeWants) || !slices.Equal(types, beforeTypes) {
			t.Fatalf("%d wants, %d types: one was written into", len(f.Wants), len(s.Types))
		}
		if ok {
			told[is]++
		}
	}
	for _, f := range anyFilters() {
		for _, s := range few {
			check(f, s)
		}
	}
	for _, s := range schemas {
		for _, f := range []impl.Filter{filter("1?"), filter("1=1"), filter("1^a"), filter("30?"), filter("(1?&2?)"), {}, chainOf(21)} {
			check(f, s)
		}
	}
	if told[true] < 100 || told[false] < 100 {
		t.Error("too few of a kind:", told)
	}
}

// What lies behind a list's length is no part of it.
func TestFiltersDoNotReadBehindTheLength(t *testing.T) {
	l := filter("(1=1&!2^a)").Wants
	first, s := impl.Filter{Wants: l[:1]}, impl.Schema{Types: schema("{n:1 num,t:2 text}").Types[:2]}
	for end, good := range []bool{false, true, false, false, true} {
		if impl.GoodFilter(impl.Filter{Wants: l[:end]}) != good {
			t.Errorf("the first %d wants: good is not %v", end, good)
		}
	}
	if is, ok := impl.Matches(first, wireOf(number(1, 1))); !is || !ok {
		t.Errorf("Matches = %v, %v", is, ok)
	}
	if got, ok := impl.NotFilter(first); !sameFilter(got, filter("!1=1")) || !ok {
		t.Errorf("NotFilter = %v, %v", got, ok)
	}
	if got, ok := impl.BothFilters(first, first); !sameFilter(got, filter("(1=1&1=1)")) || !ok {
		t.Errorf("BothFilters = %v, %v", got, ok)
	}
	if nos, ok := impl.NosOf(first); !slices.Equal(nos, []int{1}) || !ok {
		t.Errorf("NosOf = %v, %v", nos, ok)
	}
	if depth, ok := impl.DepthOf(first); depth != 1 || !ok {
		t.Errorf("DepthOf = %d, %v", depth, ok)
	}
	// A part that the schema's memory has behind its length is none.
	if is, ok := impl.FilterFits(filter("2?"), s); is || !ok {
		t.Errorf("FilterFits of what lies behind = %v, %v", is, ok)
	}
	if is, ok := impl.FilterFits(first, s); !is || !ok {
		t.Errorf("FilterFits = %v, %v", is, ok)
	}
}

// ownWantTexts is the filter with Texts that are in no other's memory.
func ownWantTexts(f impl.Filter) impl.Filter {
	l := slices.Clone(f.Wants)
	for i := range l {
		l[i].Text = strings.Clone(l[i].Text)
	}
	return impl.Filter{Wants: l}
}

func shareWantTexts(f, g impl.Filter) bool {
	for _, w := range f.Wants {
		for _, x := range g.Wants {
			if w.Text != "" && x.Text != "" && unsafe.StringData(w.Text) == unsafe.StringData(x.Text) {
				return true
			}
		}
	}
	return false
}

func spoilWants(f impl.Filter) {
	for i := range f.Wants {
		f.Wants[i] = impl.Want{Kind: 77, No: 77}
	}
	_ = append(f.Wants, impl.Want{Kind: 77})
	_ = append(f.Wants[:1], impl.Want{Kind: 77})
}

func TestFiltersHandOutNewMemory(t *testing.T) {
	for _, x := range [][3]string{
		{"2^hello", "2^other", "(2^hello&2^other)"},
		{"(1?&2^hello)", "!3^other", "((1?&2^hello)&!3^other)"},
		{"!1=5", "(2^hello|3^)", "(!1=5&(2^hello|3^))"},
	} {
		f, g := ownWantTexts(filter(x[0])), ownWantTexts(filter(x[1]))
		for name, answer := range map[string]struct {
			made func() (impl.Filter, bool)
			want string
		}{
			"NotFilter":          {func() (impl.Filter, bool) { return impl.NotFilter(f) }, "!" + x[0]},
			"NotFilter of other": {func() (impl.Filter, bool) { return impl.NotFilter(g) }, "!" + x[1]},
			"BothFilters":        {func() (impl.Filter, bool) { return impl.BothFilters(f, g) }, x[2]},
			"BothFilters of one": {func() (impl.Filter, bool) { return impl.BothFilters(f, f) }, "(" + x[0] + "&" + x[0] + ")"},
		} {
			first, _ := answer.made()
			if shareWantTexts(first, f) || shareWantTexts(first, g) {
				t.Errorf("%s(%s, %s): a Text shares an argument's memory", name, x[0], x[1])
			}
			second, ok := answer.made()
			if shareWantTexts(first, second) {
				t.Errorf("%s(%s, %s): two answers share a Text", name, x[0], x[1])
			}
			spoilWants(first)
			if !sameFilter(second, filter(answer.want)) || !ok {
				t.Errorf("%s(%s, %s): two answers share memory: %v, %v", name, x[0], x[1], second, ok)
			}
			if !sameFilter(f, filter(x[0])) || !sameFilter(g, filter(x[1])) {
				t.Errorf("%s(%s, %s): an answer shares memory: %v, %v", name, x[0], x[1], f, g)
			}
		}
	}
}

// With room behind the length in the argument's memory a wrong append would write there, or hand it out.
func TestFiltersAppendToNoArgument(t *testing.T) {
	for _, text := range []string{"1?", "!1?", "(1?&2^he)"} {
		f, memory := behindWants(filter(text))
		before := slices.Clone(memory)
		turned, _ := impl.NotFilter(f)
		both, _ := impl.BothFilters(f, f)
		spoilWants(turned)
		spoilWants(both)
		if !slices.Equal(memory, before) {
			t.Errorf("%s: the argument's memory was written into: %v", text, memory)
		}
	}
}

func TestNosOfHandsOutNewMemory(t *testing.T) {
	f := filter("((3?&1?)&(2?|3^a))")
	first, _ := impl.NosOf(f)
	second, ok := impl.NosOf(f)
	for i := range first {
		first[i] = 77
	}
	_ = append(first, 77)
	_ = append(first[:1], 77)
	if !slices.Equal(second, []int{1, 2, 3}) || !ok || !sameFilter(f, filter("((3?&1?)&(2?|3^a))")) {
		t.Error("NosOf: two answers share memory:", second, ok)
	}
}

func TestFiltersAnswerTheSameFromManySides(t *testing.T) {
	texts := []string{"(1=5&2^he)", "!(1=5|2^he)", "((1>4&1<6)|!2?)", "3?"}
	b := wireOf(number(1, 5), data(2, "hello"))
	want := []bool{true, false, true, false}
	var joined sync.WaitGroup
	for i := range 16 {
		joined.Go(func() {
			f := filter(texts[i%4])
			for range 100 {
				is, ok := impl.Matches(f, b)
				turned, okTurned := impl.NotFilter(f)
				if is != want[i%4] || !ok || !sameFilter(turned, filter("!"+texts[i%4])) || !okTurned {
					t.Errorf("%s: %v, %v, %v, %v", texts[i%4], is, ok, turned, okTurned)
					return
				}
			}
		})
	}
	joined.Wait()
}
