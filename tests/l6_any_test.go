package tests

import (
	"maps"
	"slices"
	"strings"
	"sync"
	"testing"
	"unsafe"

	"loop.example/g00333/impl"
)

func anyTerms() []impl.Term {
	l := []impl.Term{
		{}, {Cells: []impl.Cell{}}, {Cells: make([]impl.Cell, 1)}, {Cells: make([]impl.Cell, impl.MaxTerm)},
		{Cells: make([]impl.Cell, impl.MaxTerm+1)}, {Cells: make([]impl.Cell, 1<<12)},
		{Cells: slices.Repeat(term("$1").Cells, 1<<12)}, {Cells: slices.Repeat(term("f(a)").Cells[:1], 1<<12)},
		term(chain(1<<8, "a")),
	}
	for _, n := range anyNumbers() {
		l = append(l,
			impl.Term{Cells: []impl.Cell{{Var: n}}},
			impl.Term{Cells: []impl.Cell{{Var: n, Name: "a", Many: n}}},
			impl.Term{Cells: []impl.Cell{{Name: "f", Many: n}, {Var: 1}}},
			impl.Term{Cells: []impl.Cell{{Name: "f", Many: 2}, {Name: "g", Many: n}, {Name: "a"}}},
			impl.Term{Cells: []impl.Cell{{Name: "f", Many: 2}, {Name: "g", Many: n}, {Name: "h", Many: -n}}},
			impl.Term{Cells: []impl.Cell{{Name: "f", Many: n}, {Name: "g", Many: n}, {Var: n}}},
		)
	}
	for _, text := range anyTexts() {
		l = append(l,
			impl.Term{Cells: []impl.Cell{{Name: text}}},
			impl.Term{Cells: []impl.Cell{{Var: 1, Name: text}}},
			impl.Term{Cells: []impl.Cell{{Name: text, Many: 1}, {Name: text}}},
		)
	}
	wrong := wrongTerms()
	for _, name := range slices.Sorted(maps.Keys(wrong)) {
		l = append(l, wrong[name])
	}
	return append(l, terms(goodTerms()...)...)
}

// behindCells lays marks behind a list's length: they are neither to be read, nor written, nor handed out.
func behindCells(t impl.Term) (impl.Term, []impl.Cell) {
	mark := impl.Cell{Name: "mark"}
	memory := append(slices.Clone(t.Cells), mark, mark, mark)
	return impl.Term{Cells: memory[:len(t.Cells)]}, memory
}

// wantTexts: of good terms their texts; whether all are good.
func wantTexts(l []impl.Term) ([]string, bool) {
	var texts []string
	for _, x := range l {
		text, ok := wantTermText(x)
		if !ok {
			return nil, false
		}
		texts = append(texts, text)
	}
	return texts, true
}

// A panic in any of these fails the test by itself.
func TestTermsAnswerAtAnyTerms(t *testing.T) {
	good := 0
	for i, x := range anyTerms() {
		given, memory := behindCells(x)
		before := slices.Clone(memory)
		want, isGood := wantTermText(x)
		if impl.GoodTerm(given) != isGood {
			t.Errorf("term %d: GoodTerm is not %v", i, isGood)
		}
		if text, ok := impl.TermText(given); text != want || ok != isGood {
			t.Errorf("term %d: TermText %q, %v", i, text, ok)
		}
		vars, ok := impl.VarsOf(given)
		if ok != isGood || !ok && len(vars) != 0 {
			t.Errorf("term %d: VarsOf %v, %v", i, vars, ok)
		}
		if !slices.Equal(memory, before) {
			t.Fatalf("term %d was written into", i)
		}
		if isGood {
			good++
		}
	}
	if good < 20 {
		t.Error("too few are good:", good)
	}
}

func TestTermsAnswerAtAnyTwoTerms(t *testing.T) {
	all := anyTerms()
	texts := make([]string, len(all))
	for i, x := range all {
		texts[i], _ = wantTermText(x)
	}
	told, is := 0, 0
	for i, x := range all {
		a, memoryA := behindCells(x)
		beforeA := slices.Clone(memoryA)
		for j, y := range all {
			b, memoryB := a, memoryA
			if i != j {
				b, memoryB = behindCells(y)
			}
			beforeB := slices.Clone(memoryB)
			good := texts[i] != "" && texts[j] != ""
			if good {
				if _, are, _ := unified(t, texts[i], texts[j]); are {
					told++
				}
				if instance(t, texts[i], texts[j]) {
					is++
				}
			}
			l, are, ok := impl.UnifyTerms(a, b)
			if !good && (len(l) != 0 || are || ok) || are != (len(l) > 0) || are && !ok {
				t.Errorf("terms %d, %d: UnifyTerms %v, %v, %v", i, j, l, are, ok)
			}
			if found, ok := wantTexts(l); are && (!ok || len(found) != impl.MaxVars) {
				t.Errorf("terms %d, %d: UnifyTerms tells wrong terms: %v", i, j, l)
			}
			if made, ok := impl.IsInstance(a, b); ok != good || made && !good {
				t.Errorf("terms %d, %d: IsInstance %v, %v", i, j, made, ok)
			}
			if !slices.Equal(memoryA, beforeA) || !slices.Equal(memoryB, beforeB) {
				t.Fatalf("terms %d, %d: one was written into", i, j)
			}
		}
	}
	if told < 100 || is < 50 {
		t.Error("too few of a kind:", told, is)
	}
}

func anySubstitutions() [][]impl.Term {
	l := [][]impl.Term{
		nil, {}, terms(itself()...), terms(itself()[:5]...), terms(append(itself(), "a")...), make([]impl.Term, 6), make([]impl.Term, 1<<12),
		slices.Repeat(terms("a"), 1<<12), slices.Repeat(terms(chain(30, "a")), 6), terms("a", "b", "f($6)", "$3", "g($1,$1)", "$6"),
	}
	for i, x := range anyTerms() {
		with := terms(itself()...)
		with[i%6] = x
		l = append(l, with, slices.Repeat([]impl.Term{x}, 6))
	}
	return l
}

func TestApplyToAnswersAtAnySubstitutions(t *testing.T) {
	all := anyTerms()
	texts := make([]string, len(all))
	for i, x := range all {
		texts[i], _ = wantTermText(x)
	}
	room := 0
	for j, given := range anySubstitutions() {
		l := make([]impl.Term, len(given), len(given)+2)
		var memories [][]impl.Cell
		for i, x := range given {
			its, memory := behindCells(x)
			l[i] = its
			memories = append(memories, memory)
		}
		mark := term("mark")
		copy(l[len(l):cap(l)], []impl.Term{mark, mark})
		before := make([][]impl.Cell, len(memories))
		for i, memory := range memories {
			before[i] = slices.Clone(memory)
		}
		wantL, goodL := wantTexts(given[:min(len(given), 7)])
		goodL = goodL && len(given) == 6
		for i, x := range all {
			held, _ := behindCells(x)
			got, ok := impl.ApplyTo(held, l)
			want := ""
			if goodL && texts[i] != "" {
				want = wantApplied(texts[i], wantL)
			}
			if fits := want != "" && cellsIn(want) <= 30; ok != fits || ok && !sameTerm(got, term(want)) || !ok && len(got.Cells) != 0 {
				t.Errorf("term %d, substitution %d: ApplyTo %v, %v; want %q", i, j, got, ok, want)
			}
			if ok {
				room++
			}
		}
		for i, memory := range memories {
			if !slices.Equal(memory, before[i]) || len(l[i].Cells) != len(given[i].Cells) {
				t.Fatalf("substitution %d was written into", j)
			}
		}
		if marks := l[len(l):cap(l)]; !sameTerm(marks[0], mark) || !sameTerm(marks[1], mark) {
			t.Fatalf("behind substitution %d was written into", j)
		}
	}
	if room < 1000 {
		t.Error("too few have room:", room)
	}
}

func TestReadTermAnswersAtAnyTexts(t *testing.T) {
	l := append(anySources(), goodTerms()...)
	for _, piece := range []string{"f(", "(", ")", "f(a,", "f($1,", "$", "$1", ",", "a", "a,", "abcd(", " ", "\xff", "é"} {
		for _, times := range []int{1, 2, 29, 30, 31, 66, 100, 199, 200, 201, 1 << 16} {
			l = append(l, strings.Repeat(piece, times), "f("+strings.Repeat(piece, times), "f("+strings.Repeat(piece, times)+"a)")
		}
	}
	read := 0
	for _, text := range l {
		if readsTerm(t, text) {
			read++
		}
	}
	if read < 30 {
		t.Error("too few are read:", read)
	}
}

// What lies behind a list's length is no part of it.
func TestTermsDoNotReadBehindTheLength(t *testing.T) {
	cells := term("f($1,g($2))").Cells
	for end := range len(cells) {
		if impl.GoodTerm(impl.Term{Cells: cells[:end]}) {
			t.Errorf("the first %d cells are good", end)
		}
	}
	first := impl.Term{Cells: term("f($1,g($2))").Cells[1:2]}
	if vars, ok := impl.VarsOf(first); !slices.Equal(vars, []int{1}) || !ok {
		t.Errorf("VarsOf = %v, %v", vars, ok)
	}
	if text, ok := impl.TermText(first); text != "$1" || !ok {
		t.Errorf("TermText = %q, %v", text, ok)
	}
	l := terms(append(itself(), "a")...)
	if got, ok := impl.ApplyTo(first, l[:6]); !sameTerm(got, first) || !ok {
		t.Errorf("ApplyTo = %v, %v", got, ok)
	}
	if got, ok := impl.ApplyTo(first, l[:5]); len(got.Cells) != 0 || ok {
		t.Errorf("ApplyTo of five terms = %v, %v", got, ok)
	}
}

func ownNames(t impl.Term) impl.Term {
	cells := slices.Clone(t.Cells)
	for i := range cells {
		cells[i].Name = strings.Clone(cells[i].Name)
	}
	return impl.Term{Cells: cells}
}

func shareNames(a, b impl.Term) bool {
	for _, c := range a.Cells {
		for _, d := range b.Cells {
			if c.Name != "" && d.Name != "" && unsafe.StringData(c.Name) == unsafe.StringData(d.Name) {
				return true
			}
		}
	}
	return false
}

// spoil writes over all of a term's memory, also behind its length.
func spoil(t impl.Term) {
	all := t.Cells[:cap(t.Cells)]
	for i := range all {
		all[i] = impl.Cell{Name: "bad", Many: 77}
	}
}

func TestApplyToHandsOutNewMemory(t *testing.T) {
	for _, x := range []struct {
		text string
		l    []string
	}{
		{"f(a,b)", itself()},
		{"$1", substitution("$1", "f(a,b,c)")},
		{"f($1,$1)", substitution("$1", "g(a,b)")},
		{"a", itself()},
		{"$2", itself()},
	} {
		given, l := ownNames(term(x.text)), terms(x.l...)
		for i := range l {
			l[i] = ownNames(l[i])
		}
		first, _ := impl.ApplyTo(given, l)
		for _, its := range append(slices.Clone(l), given) {
			if shareNames(first, its) {
				t.Errorf("ApplyTo(%s): a Name shares an argument's memory", x.text)
			}
		}
		if slices.Contains(first.Cells[:cap(first.Cells)][len(first.Cells):], term("b").Cells[0]) {
			t.Errorf("ApplyTo(%s): what lies behind is handed out: %v", x.text, first.Cells[:cap(first.Cells)])
		}
		second, _ := impl.ApplyTo(given, l)
		spoil(first)
		if want := term(wantApplied(x.text, x.l)); !sameTerm(second, want) || !sameTerm(given, term(x.text)) || !sameTerms(l, terms(x.l...)) {
			t.Errorf("ApplyTo(%s): an answer shares memory: %v, %v, %v", x.text, second, given, l)
		}
	}
}

func TestUnifyTermsHandsOutNewMemory(t *testing.T) {
	for _, pair := range [][2]string{
		{"$1", "f(a,b,c)"}, {"f(a,b,c)", "$6"}, {"f($1,$2)", "f($2,g(a,b))"}, {"f($1,$2,$3)", "f(g(a,b),g(a,b),g(a,b))"},
		{"f($1,$1)", "f($2,$3)"}, {"f($1,$2,$3,$4,$5)", "f($2,$3,$4,$5,$6)"}, {"a", "a"}, {"f($1,$2)", "f(g($2),h(a))"},
	} {
		a, b := ownNames(term(pair[0])), ownNames(term(pair[1]))
		l, is, ok := impl.UnifyTerms(a, b)
		want, _, _ := wantUnified(pair[0], pair[1])
		if !is || !ok {
			t.Fatalf("no test: UnifyTerms(%s, %s)", pair[0], pair[1])
		}
		for v, its := range l {
			if shareNames(its, a) || shareNames(its, b) {
				t.Errorf("UnifyTerms(%s, %s): a Name of $%d shares an argument's memory", pair[0], pair[1], v+1)
			}
			spoil(its)
			for behind := v + 1; behind < len(l); behind++ {
				if !sameTerm(l[behind], term(want[behind])) {
					t.Errorf("UnifyTerms(%s, %s): two lists share memory: $%d and $%d", pair[0], pair[1], v+1, behind+1)
				}
			}
		}
		if !sameTerm(a, term(pair[0])) || !sameTerm(b, term(pair[1])) {
			t.Errorf("UnifyTerms(%s, %s): an answer shares memory: %v, %v", pair[0], pair[1], a, b)
		}
		if again, _, _ := impl.UnifyTerms(a, b); !sameTerms(again, terms(want...)) {
			t.Errorf("UnifyTerms(%s, %s): an answer shares memory with an earlier one: %v", pair[0], pair[1], again)
		}
	}
}

func TestTextsOfTermsAreNewMemory(t *testing.T) {
	text := strings.Clone("name(othr,$1,last(a))")
	first, _ := impl.ReadTerm(text)
	second, ok := impl.ReadTerm(text)
	for _, c := range second.Cells {
		if c.Name != "" && within(c.Name, text) {
			t.Error("a Name shares the text's memory:", c.Name)
		}
	}
	if shareNames(first, second) {
		t.Error("two answers share a Name")
	}
	spoil(first)
	if !sameTerm(second, term(text)) || !ok {
		t.Error("two answers share memory:", second, ok)
	}
	for _, text := range []string{"name", "a", "name(othr)", "$1"} {
		given := ownNames(term(text))
		got, ok := impl.TermText(given)
		for _, c := range given.Cells {
			if got != text || !ok || c.Name != "" && within(got, c.Name) {
				t.Errorf("TermText = %q, %v, or it shares memory", got, ok)
			}
		}
	}
	given := term("f($3,$2,$1)")
	vars, _ := impl.VarsOf(given)
	others, ok := impl.VarsOf(given)
	for i := range vars {
		vars[i] = 77
	}
	if !slices.Equal(others, []int{1, 2, 3}) || !ok {
		t.Error("VarsOf: two answers share memory:", others, ok)
	}
}

func TestTermsAnswerTheSameFromManySides(t *testing.T) {
	pairs := [][2]string{{"f($1,$3)", "f(g($2),h($1))"}, {"$1", "f($1)"}, {"f($1,$2)", "f(g($2,$2)," + chain(15, "a") + ")"}, {"a", "b"}}
	type answer struct {
		l      []impl.Term
		is, ok bool
	}
	answers := make([]answer, 64)
	var all sync.WaitGroup
	for i := range answers {
		all.Go(func() {
			pair := pairs[i%len(pairs)]
			for range 50 {
				l, is, ok := impl.UnifyTerms(term(pair[0]), term(pair[1]))
				answers[i] = answer{l, is, ok}
			}
		})
	}
	all.Wait()
	for i, got := range answers {
		want, is, ok := wantUnified(pairs[i%len(pairs)][0], pairs[i%len(pairs)][1])
		if !sameTerms(got.l, terms(want...)) || got.is != is || got.ok != ok {
			t.Errorf("%v: %v, %v, %v", pairs[i%len(pairs)], got.l, got.is, got.ok)
		}
	}
}
