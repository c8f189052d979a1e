package tests

import (
	"math"
	"math/rand"
	"slices"
	"strings"
	"testing"

	"loop.example/g00333/impl"
)

func TestTermConstants(t *testing.T) {
	if impl.MaxTerm != 30 || impl.MaxVars != 6 {
		t.Error(impl.MaxTerm, impl.MaxVars)
	}
}

func TestTermsWrittenOut(t *testing.T) {
	for text, cells := range map[string][]impl.Cell{
		"$1":       {{Var: 1}},
		"$6":       {{Var: 6}},
		"a":        {{Name: "a"}},
		"abcd":     {{Name: "abcd"}},
		"f($2)":    {{Name: "f", Many: 1}, {Var: 2}},
		"f(a,b)":   {{Name: "f", Many: 2}, {Name: "a"}, {Name: "b"}},
		"f(g,$1)":  {{Name: "f", Many: 2}, {Name: "g"}, {Var: 1}},
		"f(g($1))": {{Name: "f", Many: 1}, {Name: "g", Many: 1}, {Var: 1}},
		"f(g($1,az),$3,h(z))": {
			{Name: "f", Many: 3}, {Name: "g", Many: 2}, {Var: 1}, {Name: "az"}, {Var: 3}, {Name: "h", Many: 1}, {Name: "z"},
		},
		"f(a,a,a,a,a)": {{Name: "f", Many: 5}, {Name: "a"}, {Name: "a"}, {Name: "a"}, {Name: "a"}, {Name: "a"}},
	} {
		want := impl.Term{Cells: cells}
		if !impl.GoodTerm(want) {
			t.Errorf("%s is not good", text)
		}
		if got, ok := impl.TermText(want); got != text || !ok {
			t.Errorf("TermText = %q, %v; want %q", got, ok, text)
		}
		if got, ok := impl.ReadTerm(text); !sameTerm(got, want) || !ok {
			t.Errorf("ReadTerm(%q) = %v, %v", text, got, ok)
		}
		if !sameTerm(term(text), want) {
			t.Errorf("no test: the notation of %q", text)
		}
	}
}

// wide is a term of so many cells, all but the first right in f(..) and g(..).
func wide(cells int) string {
	var own []string
	for left := cells - 1; left > 0; {
		many := min(5, left-1)
		own = append(own, "g("+strings.Repeat("$1,", many-1)+"a)")
		left -= many + 1
	}
	return "f(" + strings.Join(own, ",") + ")"
}

func goodTerms() []string {
	l := []string{
		"$1", "$2", "$3", "$4", "$5", "$6", "a", "z", "abcd", "zzzz", "f($1)", "f(a)", "f(f)", "f(a,$1,b,$6,c)",
		"f($1,$1)", "f($2,$1)", "f(g(h(i(j))))", "f(g($1,h($2)),$3)", "f(f(f,f),f(f,f))",
		chain(29, "a"), chain(30, "a"), chain(30, "$6"), wide(29), wide(30), "f(" + chain(29, "a") + ")",
		"abcd(" + strings.Repeat("abcd(", 28) + "abcd" + strings.Repeat(")", 29),
	}
	return l
}

func wrongTerms() map[string]impl.Term {
	l := map[string]impl.Term{
		"nil":                          {},
		"no cells":                     {Cells: []impl.Cell{}},
		"31 cells":                     term(chain(31, "a")),
		"31 cells, wide":               term(wide(31)),
		"31 cells of which one is one": {Cells: append(term("a").Cells, make([]impl.Cell, 30)...)},
		"31 constants":                 {Cells: slices.Repeat(term("a").Cells, 31)},
		"behind a constant":            {Cells: append(term("a").Cells, term("b").Cells...)},
		"behind a variable":            {Cells: append(term("$1").Cells, term("$1").Cells...)},
		"behind f(a)":                  {Cells: append(term("f(a)").Cells, term("b").Cells...)},
		"an empty cell behind":         {Cells: append(term("f(a)").Cells, impl.Cell{})},
		"an empty cell":                {Cells: []impl.Cell{{}}},
		"an end too early":             {Cells: term("f(a,b)").Cells[:2]},
		"an end too early, deeper":     {Cells: term("f(a,g(b,c))").Cells[:4]},
		"an end at once":               {Cells: []impl.Cell{{Name: "f", Many: 1}}},
		"an end behind 30 cells":       {Cells: term(chain(31, "a")).Cells[:30]},
		"6 terms":                      term("f(a,a,a,a,a,a)"),
		"6 terms, 1 there":             {Cells: []impl.Cell{{Name: "f", Many: 6}, {Name: "a"}}},
		"Many -1":                      {Cells: []impl.Cell{{Name: "f", Many: -1}}},
		"Many -1 and 3":                {Cells: []impl.Cell{{Name: "f", Many: 3}, {Name: "a", Many: -1}, {Name: "a"}}},
		"Many -1 within":               {Cells: []impl.Cell{{Name: "f", Many: 2}, {Name: "a", Many: -1}}},
		"Many the greatest":            {Cells: []impl.Cell{{Name: "f", Many: math.MaxInt}, {Name: "a"}}},
		"Many the least":               {Cells: []impl.Cell{{Name: "f", Many: math.MinInt}}},
		"Var 7":                        term("$7"),
		"Var 7 within":                 term("f(a,$7)"),
		"Var the greatest":             {Cells: []impl.Cell{{Var: math.MaxInt}}},
		"Var -1":                       {Cells: []impl.Cell{{Var: -1}}},
		"Var -1 within":                {Cells: []impl.Cell{{Name: "f", Many: 1}, {Var: -1}}},
		"Var -1 with a Name":           {Cells: []impl.Cell{{Var: -1, Name: "a"}}},
		"Var the least":                {Cells: []impl.Cell{{Var: math.MinInt}}},
		"Var 0 with no Name":           term("$0"),
		"Var 7 with a Name":            {Cells: []impl.Cell{{Var: 7, Name: "a"}}},
		"a variable with a Name":       {Cells: []impl.Cell{{Var: 1, Name: "a"}}},
		"a variable with a Many":       {Cells: []impl.Cell{{Var: 1, Many: 1}, {Name: "a"}}},
		"a variable with both":         {Cells: []impl.Cell{{Var: 1, Name: "f", Many: 1}, {Name: "a"}}},
		"a variable with Many -1":      {Cells: []impl.Cell{{Name: "f", Many: 2}, {Var: 1, Many: -1}}},
	}
	for _, name := range []string{"", "abcde", "A", "Z", "aB", "1", "a1", "$", "$1", " ", "a ", " a", "\n", "`", "{", "a{", "é", "\x00", "a\x00", "a\xff", "_", "(", ")", ",", "a(b)"} {
		l["the Name "+name] = impl.Term{Cells: []impl.Cell{{Name: name}}}
		l["the Name "+name+" at first"] = impl.Term{Cells: []impl.Cell{{Name: name, Many: 1}, {Var: 1}}}
		l["the Name "+name+" within"] = impl.Term{Cells: []impl.Cell{{Name: "f", Many: 2}, {Name: name}, {Name: "a"}}}
	}
	return l
}

func TestGoodTerm(t *testing.T) {
	for _, text := range goodTerms() {
		if !impl.GoodTerm(term(text)) {
			t.Errorf("%s is not good", text)
		}
		if want, ok := wantTermText(term(text)); want != text || !ok {
			t.Errorf("no test: the text of %s", text)
		}
	}
	if cellsIn(wide(30)) != 30 || cellsIn(wide(31)) != 31 || cellsIn(chain(30, "a")) != 30 || cellsIn(chain(31, "a")) != 31 {
		t.Error("no test: the lengths of wide terms and chains")
	}
	for name, wrong := range wrongTerms() {
		if impl.GoodTerm(wrong) {
			t.Errorf("%s is good", name)
		}
		if _, ok := wantTermText(wrong); ok {
			t.Errorf("no test: the text of %s", name)
		}
	}
}

func TestWrongTermsGiveZeroAnswers(t *testing.T) {
	l := terms(itself()...)
	for name, wrong := range wrongTerms() {
		if got, ok := impl.ApplyTo(wrong, l); len(got.Cells) != 0 || ok {
			t.Errorf("%s: ApplyTo %v, %v", name, got, ok)
		}
		for _, text := range []string{"a", "$1", "f($1,$2)"} {
			for _, pair := range [][2]impl.Term{{wrong, term(text)}, {term(text), wrong}, {wrong, wrong}} {
				if got, is, ok := impl.UnifyTerms(pair[0], pair[1]); len(got) != 0 || is || ok {
					t.Errorf("%s: UnifyTerms %v, %v, %v", name, got, is, ok)
				}
				if is, ok := impl.IsInstance(pair[0], pair[1]); is || ok {
					t.Errorf("%s: IsInstance %v, %v", name, is, ok)
				}
			}
		}
		if got, ok := impl.VarsOf(wrong); len(got) != 0 || ok {
			t.Errorf("%s: VarsOf %v, %v", name, got, ok)
		}
		if got, ok := impl.TermText(wrong); got != "" || ok {
			t.Errorf("%s: TermText %q, %v", name, got, ok)
		}
	}
}

// nearlyGood is the term with one cell changed, left out, or put in.
func nearlyGood(source *rand.Rand, t impl.Term) impl.Term {
	cells := slices.Clone(t.Cells)
	at := source.Intn(len(cells))
	switch source.Intn(7) {
	case 0:
		cells[at].Many += source.Intn(3) - 1
	case 1:
		cells[at].Var += source.Intn(5) - 2
	case 2:
		cells[at].Name = []string{"", "a", "abcd", "abcde", "aZ"}[source.Intn(5)]
	case 3:
		cells = slices.Delete(cells, at, at+1)
	case 4:
		cells = slices.Insert(cells, at, impl.Cell{Name: "g", Many: source.Intn(3)})
	case 5:
		other := source.Intn(len(cells))
		cells[at], cells[other] = cells[other], cells[at]
	case 6:
		cells = append(cells, impl.Cell{Var: source.Intn(2), Name: "a"}, impl.Cell{Name: "b"})[:len(cells)+source.Intn(3)]
	}
	return impl.Term{Cells: cells}
}

func TestGoodTermOfTermsNearlyGood(t *testing.T) {
	source := rand.New(rand.NewSource(17))
	good, wrong := 0, 0
	for range 20000 {
		x := nearlyGood(source, term(randomTerm(source, 1+source.Intn(30), 1, 6)))
		want, isGood := wantTermText(x)
		if impl.GoodTerm(x) != isGood {
			t.Fatalf("GoodTerm(%v) is not %v", x, isGood)
		}
		if got, ok := impl.TermText(x); got != want || ok != isGood {
			t.Fatalf("TermText(%v) = %q, %v; want %q, %v", x, got, ok, want, isGood)
		}
		if isGood {
			good++
		} else {
			wrong++
		}
	}
	if good < 3000 || wrong < 3000 {
		t.Error("too few of a kind:", good, wrong)
	}
}

// termComesBack holds what promise 6 says of texts at a good term.
func termComesBack(t *testing.T, text string) {
	t.Helper()
	x := term(text)
	if got, ok := impl.TermText(x); got != text || !ok {
		t.Fatalf("TermText(%v) = %q, %v; want %q", x, got, ok, text)
	}
	if got, ok := impl.ReadTerm(text); !sameTerm(got, x) || !ok {
		t.Fatalf("ReadTerm(%q) = %v, %v", text, got, ok)
	}
}

func TestTermsComeBackFromTheirTexts(t *testing.T) {
	for _, text := range goodTerms() {
		termComesBack(t, text)
	}
	for _, text := range smallTerms(5, 3) {
		termComesBack(t, text)
	}
	source := rand.New(rand.NewSource(18))
	for range 5000 {
		termComesBack(t, randomTerm(source, 1+source.Intn(30), 1, 6))
	}
}

// readsTerm holds any text; it tells whether it is a good term's.
func readsTerm(t *testing.T, text string) bool {
	t.Helper()
	want := wantIsText(text)
	got, ok := impl.ReadTerm(text)
	if ok != want || !ok && len(got.Cells) != 0 {
		t.Fatalf("ReadTerm(%q) = %v, %v; want %v", text, got, ok, want)
	}
	if back, good := wantTermText(got); good != ok || ok && back != text {
		t.Fatalf("ReadTerm(%q) = %v, %v: its text is %q", text, got, ok, back)
	}
	if back, good := impl.TermText(got); good != ok || ok && back != text {
		t.Fatalf("TermText of ReadTerm(%q) = %q, %v", text, back, good)
	}
	return ok
}

func TestTextsOfNoTerm(t *testing.T) {
	for _, text := range []string{
		"", " ", "a ", " a", "a b", "f (a)", "f( a)", "f(a )", "f(a) ", "f(a, b)", "f(a ,b)", "$ 1", "$1 ", " $1", "a\n", "\ta",
		"()", "f()", "f(())", "(a)", "f(g())", "$1()", "$1(a)", "a()b",
		",", "a,", ",a", "a,b", "$1,", "f(,)", "f(a,)", "f(,a)", "f(a,,b)", "f(a),", "f(a),b", "f(a,b,)", "f(g(a),)",
		"$", "$$1", "1", "$a", "$0", "$7", "$8", "$9", "$10", "$12", "$01", "$00", "$11", "$66", "$1a", "a$1", "$-1", "$+1", "f($)", "f($0)", "f($7)", "f($12)", "f($01)",
		"(", ")", "f(", "f)", "f(a", "f(a))", "f((a)", "f((a))", "f(a)(b)", "f(a)b", "f(a)g(b)", "f(g(a)", "f(a,", "f($1", "f(g(",
		"abcde", "f(abcde)", "abcde(a)", "A", "aB", "f(A)", "F(a)", "a1", "1a", "a_", "T", "f(T)", "a.", "é", "f(é)", "\x00", "a\x00", "\xff", "a\xff", "f(\xc3)", "$\xc1",
		"f(a,a,a,a,a,a)", "f($1,$2,$3,$4,$5,$6)", "g(f(a,a,a,a,a,a))",
		chain(31, "a"), chain(31, "$1"), wide(31), chain(30, "f(a)"),
	} {
		if readsTerm(t, text) {
			t.Errorf("%q is a term's text", text)
		}
	}
}

// No good term has a text of more than 178 bytes, so that those up to 200 and beyond are none.
func TestTextsOf200Bytes(t *testing.T) {
	longest := strings.Repeat("abcd(", 29) + "abcd" + strings.Repeat(")", 29)
	if len(longest) != 178 || !readsTerm(t, longest) {
		t.Error("the longest text is none")
	}
	for _, bytes := range []int{199, 200, 201, 202, 400} {
		for _, text := range []string{
			longest + strings.Repeat(" ", bytes-178),
			strings.Repeat(" ", bytes-178) + longest,
			longest + strings.Repeat(")", bytes-178),
			strings.Repeat("a", bytes), strings.Repeat("(", bytes), strings.Repeat(" ", bytes), "$1" + strings.Repeat("0", bytes-2),
			chain((bytes-1)/3+1, "a"), "ab(" + strings.Repeat("a,", (bytes-5)/2) + "a)", strings.Repeat("f(", bytes/2) + "a",
		} {
			if readsTerm(t, text) {
				t.Errorf("%q is a term's text", text)
			}
		}
	}
}

func TestEachByteAtEachPlaceOfATerm(t *testing.T) {
	const marks = "$0167afz(), AZ-T\n\x00\x80\xff"
	read := 0
	for _, text := range []string{"a", "$1", "abcd", "f($1)", "f(a,b)", "f(g($1,$2),$3)", "f(a,b,c,d,e)", chain(29, "a"), wide(30)} {
		for at := range len(text) + 1 {
			for _, mark := range []byte(marks) {
				changes := []string{text[:at] + string([]byte{mark}) + text[at:], text[:at]}
				if at < len(text) {
					changes = append(changes, text[:at]+string([]byte{mark})+text[at+1:], text[:at]+text[at+1:])
				}
				for _, changed := range changes {
					if readsTerm(t, changed) {
						read++
					}
				}
			}
		}
	}
	if read < 500 {
		t.Error("too few are read:", read)
	}
}

func TestRandomTextsOfTerms(t *testing.T) {
	source := rand.New(rand.NewSource(19))
	pieces := []string{"$", "$1", "$6", "$7", "a", "b", "f(", "g(", "(", ")", ")", ",", ",", "abcd", "e"}
	read := 0
	for range 60000 {
		text := ""
		for range 1 + source.Intn(9) {
			text += pieces[source.Intn(len(pieces))]
		}
		if readsTerm(t, text) {
			read++
		}
	}
	if read < 3000 {
		t.Error("too few are read:", read)
	}
}

func TestVarsOf(t *testing.T) {
	for _, x := range []struct {
		text string
		want []int
	}{
		{"a", nil},
		{"f(a,b)", nil},
		{"$1", []int{1}},
		{"$6", []int{6}},
		{"f($1,$1)", []int{1}},
		{"f($6,$1)", []int{1, 6}},
		{"f($3,g($2,$3),$1)", []int{1, 2, 3}},
		{"f($5,$4,$3,$2,$1)", []int{1, 2, 3, 4, 5}},
		{"f(g($6,$5,$4),g($3,$2,$1),$6)", []int{1, 2, 3, 4, 5, 6}},
		{chain(30, "$4"), []int{4}},
	} {
		if got, ok := impl.VarsOf(term(x.text)); !slices.Equal(got, x.want) || !ok {
			t.Errorf("VarsOf(%s) = %v, %v; want %v", x.text, got, ok, x.want)
		}
	}
	source := rand.New(rand.NewSource(20))
	for range 3000 {
		text := randomTerm(source, 1+source.Intn(30), 1, source.Intn(7))
		var want []int
		for v, mark := range itself() {
			if strings.Contains(text, mark) {
				want = append(want, v+1)
			}
		}
		if got, ok := impl.VarsOf(term(text)); !slices.Equal(got, want) || !ok {
			t.Fatalf("VarsOf(%s) = %v, %v; want %v", text, got, ok, want)
		}
	}
}

// applied holds ApplyTo at a good term and a substitution; it tells whether there is room.
func applied(t *testing.T, text string, l []string) bool {
	t.Helper()
	want := wantApplied(text, l)
	room := cellsIn(want) <= impl.MaxTerm
	got, ok := impl.ApplyTo(term(text), terms(l...))
	if !room {
		if len(got.Cells) != 0 || ok {
			t.Fatalf("ApplyTo(%s, %v) of %d cells = %v, %v", text, l, cellsIn(want), got, ok)
		}
		return false
	}
	if !sameTerm(got, term(want)) || !ok {
		t.Fatalf("ApplyTo(%s, %v) = %v, %v; want %s", text, l, got, ok, want)
	}
	if is, ok := impl.IsInstance(got, term(text)); !is || !ok {
		t.Fatalf("IsInstance(%s, %s) = %v, %v", want, text, is, ok)
	}
	return true
}

func TestApplyTo(t *testing.T) {
	for _, x := range []struct {
		text string
		l    []string
		want string
	}{
		{"a", itself(), "a"},
		{"a", substitution("$1", "b"), "a"},
		{"$1", itself(), "$1"},
		{"$1", substitution("$1", "b"), "b"},
		{"$6", substitution("$6", "f($6)"), "f($6)"},
		{"$2", substitution("$1", "b"), "$2"},
		{"f($1,$2)", substitution("$1", "$2", "$2", "$1"), "f($2,$1)"},
		{"f($1,$1)", substitution("$1", "g($1,a)"), "f(g($1,a),g($1,a))"},
		{"f($1,$2,$3)", substitution("$1", "$2", "$2", "$3", "$3", "a"), "f($2,$3,a)"},
		{"f(g($6,$5,$4),g($3,$2,$1))", []string{"a", "b", "c", "d", "e", "z"}, "f(g(z,e,d),g(c,b,a))"},
		{"f(g($1),$2)", substitution("$1", "h($2)", "$2", "i(a,b)"), "f(g(h($2)),i(a,b))"},
		{"$1", substitution("$1", chain(30, "a")), chain(30, "a")},
		{"f($1)", substitution("$1", chain(29, "a")), "f(" + chain(29, "a") + ")"},
		{"f($1,$1,a)", substitution("$1", chain(14, "$2")), "f(" + chain(14, "$2") + "," + chain(14, "$2") + ",a)"},
		{chain(29, "$1"), substitution("$1", "f(a)"), chain(30, "a")},
		{chain(30, "$1"), substitution("$1", "abcd", "$2", chain(30, "a")), chain(30, "abcd")},
	} {
		if got, ok := impl.ApplyTo(term(x.text), terms(x.l...)); !sameTerm(got, term(x.want)) || !ok {
			t.Errorf("ApplyTo(%s, %v) = %v, %v; want %s", x.text, x.l, got, ok, x.want)
		}
		if !applied(t, x.text, x.l) {
			t.Errorf("no room in ApplyTo(%s, %v)", x.text, x.l)
		}
	}
	for _, x := range []struct {
		text string
		l    []string
	}{
		{"f($1)", substitution("$1", chain(30, "a"))},
		{"f($1,$1)", substitution("$1", chain(15, "a"))},
		{"f($1,$1,a)", substitution("$1", chain(15, "a"))},
		{"f(a,$1)", substitution("$1", chain(29, "a"))},
		{"f($1,a)", substitution("$1", chain(29, "a"))},
		{chain(30, "$1"), substitution("$1", "f(a)")},
		{"f($1,$2,$3,$4,$5)", slices.Repeat([]string{chain(30, "a")}, 6)},
	} {
		if applied(t, x.text, x.l) {
			t.Errorf("room in ApplyTo(%s, %v)", x.text, x.l)
		}
	}
}

func TestApplyToOfWrongSubstitutions(t *testing.T) {
	lists := map[string][]impl.Term{
		"nil": nil, "none": {}, "one": terms("$1"), "five": terms(itself()[:5]...), "seven": terms(append(itself(), "a")...), "twelve": terms(append(itself(), itself()...)...),
	}
	for name, wrong := range wrongTerms() {
		for at := range 6 {
			l := terms(itself()...)
			l[at] = wrong
			lists[name+" at "+itself()[at]] = l
		}
	}
	for name, l := range lists {
		// Also where the variable that it is wrong for is not there at all.
		for _, text := range []string{"a", "$1", "f($1,$6)", chain(30, "a")} {
			if got, ok := impl.ApplyTo(term(text), l); len(got.Cells) != 0 || ok {
				t.Errorf("%s: ApplyTo(%s) = %v, %v", name, text, got, ok)
			}
		}
	}
}

func TestRandomTermsAreApplied(t *testing.T) {
	source := rand.New(rand.NewSource(21))
	room, full, over := 0, 0, 0
	for range 10000 {
		var l []string
		for range 6 {
			l = append(l, randomTerm(source, 1+source.Intn(6), 1, 6))
		}
		text := randomTerm(source, 1+source.Intn(30), 1, 6)
		switch cells := cellsIn(wantApplied(text, l)); {
		case !applied(t, text, l):
			over++
		case cells == impl.MaxTerm:
			full++
		default:
			room++
		}
	}
	if room < 1000 || full < 50 || over < 1000 {
		t.Error("too few of a kind:", room, full, over)
	}
}

// unified holds UnifyTerms of two good terms against the reference, and what is told against promise 6.
func unified(t *testing.T, a, b string) ([]string, bool, bool) {
	t.Helper()
	want, wantIs, wantOk := wantUnified(a, b)
	got, is, ok := impl.UnifyTerms(term(a), term(b))
	if !sameTerms(got, terms(want...)) || is != wantIs || ok != wantOk {
		t.Fatalf("UnifyTerms(%s, %s) = %v, %v, %v; want %v, %v, %v", a, b, got, is, ok, want, wantIs, wantOk)
	}
	if is {
		makesBothTheSame(t, a, b, got)
	}
	return want, is, ok
}

// makesBothTheSame asks for no room in the terms themselves: both may get too long, while none does on the way.
func makesBothTheSame(t *testing.T, a, b string, l []impl.Term) {
	t.Helper()
	one, okOne := impl.ApplyTo(term(a), l)
	other, okOther := impl.ApplyTo(term(b), l)
	if !sameTerm(one, other) || okOne != okOther {
		t.Fatalf("%s and %s by %v: %v, %v", a, b, l, one, other)
	}
	for v, its := range l {
		if again, ok := impl.ApplyTo(its, l); !sameTerm(again, its) || !ok {
			t.Fatalf("%s and %s: what is told of $%d is not at its end: %v, once more %v, %v", a, b, v+1, its, again, ok)
		}
	}
	if again, ok := impl.ApplyTo(one, l); okOne && (!sameTerm(again, one) || !ok) {
		t.Fatalf("%s and %s by %v, once more: %v, then %v, %v", a, b, l, one, again, ok)
	}
}

// comesFromIt holds that a substitution that makes both terms the same comes from what is told.
func comesFromIt(t *testing.T, a, b string, l []string) {
	t.Helper()
	told, is, ok := impl.UnifyTerms(term(a), term(b))
	if !is || !ok || len(told) != impl.MaxVars {
		t.Fatalf("UnifyTerms(%s, %s) = %v, %v, %v, though %v makes both the same", a, b, told, is, ok, l)
	}
	for v, its := range told {
		if mark := itself()[v]; !strings.Contains(a, mark) && !strings.Contains(b, mark) {
			if !sameTerm(its, term(mark)) {
				t.Fatalf("UnifyTerms(%s, %s) tells of %s: %v", a, b, mark, its)
			}
			continue
		}
		if got, ok := impl.ApplyTo(its, terms(l...)); !sameTerm(got, term(l[v])) || !ok {
			t.Fatalf("UnifyTerms(%s, %s): %v does not come from %v: $%d gets %v, %v", a, b, l, told, v+1, got, ok)
		}
	}
}

func TestTermsMadeAlike(t *testing.T) {
	for _, x := range []struct {
		a, b string
		want []string
	}{
		{"a", "a", itself()},
		{"f(a,b)", "f(a,b)", itself()},
		{"$1", "$1", itself()},
		{"f($1,g($2))", "f($1,g($2))", itself()},
		{chain(30, "$1"), chain(30, "$1"), itself()},

		// Both are variables: it is the first's.
		{"$1", "$2", substitution("$1", "$2")},
		{"$2", "$1", substitution("$2", "$1")},
		{"$6", "$1", substitution("$6", "$1")},
		{"f($1,$2)", "f($2,$1)", substitution("$1", "$2")},
		{"f($2,$1)", "f($1,$2)", substitution("$2", "$1")},

		// One is.
		{"$1", "a", substitution("$1", "a")},
		{"a", "$1", substitution("$1", "a")},
		{"$6", "f($1,$2)", substitution("$6", "f($1,$2)")},
		{"f($1,$2)", "$6", substitution("$6", "f($1,$2)")},
		{"f($1,b)", "f(a,$2)", substitution("$1", "a", "$2", "b")},
		{"f($1,$1)", "f(a,$2)", substitution("$1", "a", "$2", "a")},
		{"$1", chain(30, "a"), substitution("$1", chain(30, "a"))},

		// What is found is put into what was found, and into the pairs that are left.
		{"f($1,$2)", "f(g($2),a)", substitution("$1", "g(a)", "$2", "a")},
		{"f($1,$3)", "f(g($2),h($1))", substitution("$1", "g($2)", "$3", "h(g($2))")},
		{"f($1,$2,$3)", "f($2,$3,a)", substitution("$1", "a", "$2", "a", "$3", "a")},
		{"f($1,$2,$3)", "f(g($2,$2),g($3,$3),a)", substitution("$1", "g(g(a,a),g(a,a))", "$2", "g(a,a)", "$3", "a")},
		{"f($3,$2,$1)", "f(a,g($3,$3),g($2,$2))", substitution("$1", "g(g(a,a),g(a,a))", "$2", "g(a,a)", "$3", "a")},
		{"f($1,$1)", "f(g($2),g(a))", substitution("$1", "g(a)", "$2", "a")},
		{"f($1,$1)", "f(g($2,b),g(a,$3))", substitution("$1", "g(a,b)", "$2", "a", "$3", "b")},

		// The first pair first: the last one first would tell $2 of all three.
		{"f($1,$1)", "f($2,$3)", substitution("$1", "$3", "$2", "$3")},
		{"f($2,$3)", "f($1,$1)", substitution("$2", "$1", "$3", "$1")},
		// A term's own are pairs in its place: behind the others they would tell $2 of all three.
		{"f(g($1),$1)", "f(g($2),$3)", substitution("$1", "$3", "$2", "$3")},
		{"f(g($1),g($1))", "f(g($2),$4)", substitution("$1", "$2", "$4", "g($2)")},
		{"f(g(h($1),$1),$1)", "f(g(h($2),$3),$4)", substitution("$1", "$4", "$2", "$4", "$3", "$4")},
		// The first's, as it is by then.
		{"f($1,$1,$2)", "f($2,$3,$1)", substitution("$1", "$3", "$2", "$3")},
		{"f($1,$2,$3)", "f($4,$4,$4)", substitution("$1", "$4", "$2", "$4", "$3", "$4")},
		{"f($4,$4,$4)", "f($1,$2,$3)", substitution("$1", "$3", "$2", "$3", "$4", "$3")},
		{"f(g($1,$2),g($3,$4),g($5,$6))", "f(g($2,$3),g($4,$5),g($6,a))", []string{"a", "a", "a", "a", "a", "a"}},
	} {
		got, is, ok := impl.UnifyTerms(term(x.a), term(x.b))
		if !sameTerms(got, terms(x.want...)) || !is || !ok {
			t.Errorf("UnifyTerms(%s, %s) = %v, %v, %v; want %v", x.a, x.b, got, is, ok, x.want)
		}
		unified(t, x.a, x.b)
		comesFromIt(t, x.a, x.b, x.want)
	}
}

func TestTermsThatNothingMakesAlike(t *testing.T) {
	for _, x := range [][2]string{
		// Names
		{"a", "b"}, {"a", "aa"}, {"abcd", "abce"}, {"f(a)", "g(a)"}, {"f($1)", "g($1)"}, {"f(a)", "f(b)"}, {"f(a,b)", "f(a,c)"}, {"f($1,a)", "f($2,b)"},
		// as many terms
		{"f", "f(a)"}, {"f(a)", "f(a,a)"}, {"f($1)", "f($1,$1)"}, {"f(a,a,a,a)", "f(a,a,a,a,a)"}, {"g(f)", "g(f(a))"},
		// what was found before
		{"f($1,$1)", "f(a,b)"}, {"f($1,g($2))", "f(a,$1)"}, {"f($1,$2,$1)", "f($2,a,b)"}, {"f(a,$1)", "f($1,b)"},
		// a variable in itself
		{"$1", "f($1)"}, {"f($1)", "$1"}, {"$6", "f(a,g(b,$6))"}, {"$1", chain(30, "$1")}, {"f($1,a)", "f(f($1),a)"},
		{"f(a,$1)", "f(a,f($1))"}, {"$1", "f($2,$1)"}, {"f($2,$1)", "$1"},
		// a variable in itself by what was found before
		{"f($1,$2)", "f(g($2),g($1))"}, {"f($1,$1)", "f($2,g($2))"}, {"f($1,$1)", "f(g($2),$2)"}, {"f($1,$2,$3)", "f(g($2),g($3),g($1))"},
		{"f($1,$2,$2)", "f($2,$1,g($1))"}, {"f($1,g($1))", "f($2,$2)"},
	} {
		for _, pair := range [][2]string{x, {x[1], x[0]}} {
			if got, is, ok := impl.UnifyTerms(term(pair[0]), term(pair[1])); len(got) != 0 || is || !ok {
				t.Errorf("UnifyTerms(%s, %s) = %v, %v, %v", pair[0], pair[1], got, is, ok)
			}
			unified(t, pair[0], pair[1])
		}
	}
}

func TestRoomForTermsMadeAlike(t *testing.T) {
	const none, noRoom, told = 0, 1, 2
	for _, x := range []struct {
		a, b string
		want int
	}{
		// in what was found
		{"f($1,$2)", "f(g($2,$2,a)," + chain(14, "a") + ")", told}, // $1 of 30
		{"f($1,$2)", "f(g($2,$2)," + chain(15, "a") + ")", noRoom}, // of 31
		{"f($1,$2)", "f(g($2)," + chain(27, "a") + ")", told},
		{"f($2,$1)", "f(" + chain(15, "a") + ",g($2,$2))", noRoom},
		{"f($2,$1)", "f(" + chain(14, "a") + ",g($2,$2,a))", told},
		{"f($1,$2,$3,$4)", "f(g($2,$2),g($3,$3),g($4,$4),a)", told},                            // $1 of 15
		{"f($1,$2,$3,$4,$5)", "f(g($2,$2),g($3,$3),g($4,$4),g($5,$5),a)", noRoom},              // of 31
		{"f($1,$2,$3,$4,$5)", "f(g($2,$2),g($3,$3),g($4,$4),g($5),a)", told},                   // of 23
		{"f($5,$4,$3,$2,$1)", "f(a,g($5,$5),g($4,$4),g($3,$3),g($2,$2))", noRoom},              // the same from the other end
		{"f($1,$2,$3,$4,$5)", "f(g($2,$2),g($3,$3),g($4,$4),g($5,$5),f(a,b))", noRoom},         // before it comes to $5
		{"f($1,$2,$3,$4,a)", "f(g($2,$2),g($3,$3),g($4,$4),g($5,$5),b)", noRoom},               // before it comes to a and b
		{"f(a,$1,$2,$3,$4)", "f(b,g($2,$2),g($3,$3),g($4,$4),g($5,$5))", none},                 // behind a and b
		{"f($1,$2,$3,$4,$1)", "f(g($2,$2),g($3,$3),g($4,$4),g($5,$5),h($1))", noRoom},          // before it comes to $1 in itself
		{"f($1,$1,$2,$3,$4)", "f($5,h($5),g($3,$3),g($4,$4),g($5,$5))", none},                  // behind it
		{"f($1,$2,$3,$4,$6)", "f(g($2,$2),g($3,$3),g($4,$4),g($5,$5),$6)", noRoom},             // all of the rest alike
		{"f($1,$2,$3,$4,$6)", "f(g($2,$2),g($3,$3),g($4,$4),h($5),$6)", told},                  // $1 of 23
		{"f(h($1),$2,$3,$4)", "f(h(g($2,$2)),g($3,$3),g($4,$4),h($5))", told},                  // the same, deeper
		{"f(h($1),$2,$3,$4)", "f(h(g($2,$2)),g($3,$3),g($4,$4),g($5,$5))", noRoom},             // of 31
		{"f($1,$2,$3,g($4))", "f(g($2,$2),g($3,$3),g($4,$4),g(g($5,$5)))", noRoom},             // of 31
		{"f($1,$2,$3,g($4))", "f(g($2,$2),g($3,$3),g($4,$4),g(g($5,$5),a))", none},             // unlike ahead of it
		{"f($1,$2,$3,g($4),a)", "f(g($2,$2),g($3,$3),g($4,$4),g(g($5,$5)),a)", noRoom},         // of 31
		{"f($1,$2,$3,$4)", "f(g($2,$2,$2,$2,$2),g($3,$3),a,b)", told},                          // of 16
		{"f($1,$2,$3,$4)", "f(g($2,$2,$2,$2,$2),g($3,$3,$3,$3,$3),a,b)", noRoom},               // of 31
		{"f($1,$2,$3,$4)", "f(g($2,$2,$2,$2,a),g($3,$3,$3,$3,$3),a,b)", told},                  // of 26
		{"f($1,$2,$3,$4)", "f(g($2,$2,$2,$2,h(h(h(h(h(a)))))),g($3,$3,$3,$3,$3),a,b)", noRoom}, // of 31
		{"f($1,$2,$3,$4)", "f(g($2,$2,$2,$2,h(h(h(h(a))))),g($3,$3,$3,$3,$3),a,b)", told},      // of 30

		// in a pair that is left, on either side, though it is unlike
		{"f($1,g($1,$1))", "f(" + chain(15, "a") + ",b)", noRoom},
		{"f($1,g($1,$1))", "f(" + chain(14, "a") + ",b)", none},
		{"f($1,g($1,$1,a))", "f(" + chain(14, "a") + ",b)", none}, // of 30
		{"f($1,b)", "f(" + chain(15, "a") + ",g($1,$1))", noRoom},
		{"f($1,b)", "f(" + chain(14, "a") + ",g($1,$1))", none},
		{"f($1,b,c)", "f(" + chain(15, "a") + ",b,g($1,$1))", noRoom},
		{"f($1,b,c)", "f(" + chain(15, "a") + ",c,g($1,$1))", noRoom}, // before it comes to b and c
		{"f(b,$1,c)", "f(c," + chain(15, "a") + ",g($1,$1))", none},   // behind them
		{"f(" + chain(15, "a") + ",b)", "f($1,g($1,$1))", noRoom},
		{"f(" + chain(14, "a") + ",b)", "f($1,g($1,$1))", none},
		{"f($1,g($1,$1))", "f(" + chain(15, "a") + ",$2)", noRoom},
		{"f($1,g($1,$1))", "f(" + chain(14, "a") + ",$2)", told},

		// not of the terms themselves, nor of pairs that were alike
		{"f($1," + chain(15, "a") + ")", "f(" + chain(15, "b") + ",$2)", told},
		{"f(" + chain(28, "a") + ",$1)", "f($2," + chain(28, "a") + ")", told},
		{"f(g($1,$1),$1)", "f(g($1,$1)," + chain(15, "a") + ")", told},
	} {
		got, is, ok := impl.UnifyTerms(term(x.a), term(x.b))
		if is != (x.want == told) || ok != (x.want != noRoom) || !is && len(got) != 0 {
			t.Errorf("UnifyTerms(%s, %s) = %v, %v, %v", x.a, x.b, got, is, ok)
		}
		unified(t, x.a, x.b)
	}
}

func TestRandomTermsMadeAlike(t *testing.T) {
	source := rand.New(rand.NewSource(22))
	kinds := map[[2]bool]int{}
	noRoomItself := 0
	for range 30000 {
		vars := 1 + source.Intn(6)
		cells := 1 + source.Intn(30)
		a := randomTerm(source, cells, 1, vars)
		// The other one is made of the same, so that not nearly all are unlike at once.
		b := wantApplied(a, randomRenaming(source, vars))
		if source.Intn(3) == 0 {
			b = randomTerm(source, cells, 1, vars)
		}
		a, b = cutAnywhere(source, a, vars), cutAnywhere(source, b, vars)
		if source.Intn(3) == 0 {
			a, b = stairs(source)
		}
		if cellsIn(b) > impl.MaxTerm {
			continue
		}
		found, is, ok := unified(t, a, b)
		kinds[[2]bool{is, ok}]++
		if is && cellsIn(wantApplied(a, found)) > impl.MaxTerm {
			noRoomItself++
		}
	}
	if kinds[[2]bool{true, true}] < 3000 || kinds[[2]bool{false, true}] < 3000 || kinds[[2]bool{false, false}] < 100 || noRoomItself < 100 {
		t.Error("too few of a kind:", kinds, noRoomItself)
	}
}

// randomRenaming is mostly variables for variables.
func randomRenaming(source *rand.Rand, vars int) []string {
	l := itself()
	for v := range vars {
		if source.Intn(4) > 0 {
			l[v] = randomTerm(source, 1, 1, vars)
		} else {
			l[v] = randomTerm(source, 1+source.Intn(4), 1, vars)
		}
	}
	return l
}

// stairs: variables in the one stand at terms in the other that have those behind them, so that what is found
// soon gets long.
func stairs(source *rand.Rand) (string, string) {
	var one, other []string
	for v := range 5 {
		one = append(one, itself()[v])
		other = append(other, randomTerm(source, 1+source.Intn(6), v+2, 6))
		if source.Intn(2) == 0 {
			one[v], other[v] = other[v], one[v]
		}
		if source.Intn(8) == 0 {
			one[v] = randomTerm(source, 1+source.Intn(3), 1, 6)
		}
	}
	source.Shuffle(5, func(i, j int) {
		one[i], one[j] = one[j], one[i]
		other[i], other[j] = other[j], other[i]
	})
	return "f(" + strings.Join(one, ",") + ")", "f(" + strings.Join(other, ",") + ")"
}

// cutAnywhere puts variables in the place of some of the term's own.
func cutAnywhere(source *rand.Rand, text string, vars int) string {
	if source.Intn(10) == 0 {
		return randomTerm(source, 1, 1, vars)
	}
	name, own := ownTexts(text)
	if len(own) == 0 {
		return text
	}
	for i, its := range own {
		own[i] = cutAnywhere(source, its, vars)
	}
	return name + "(" + strings.Join(own, ",") + ")"
}

// Where a substitution makes both the same good term there is room: no term gets longer than by it.
func TestWhateverMakesThemTheSameComesFromIt(t *testing.T) {
	source := rand.New(rand.NewSource(23))
	unlike, deep, own := 0, 0, 0
	for range 20000 {
		a, b, l, made := randomAlike(source)
		if !sameTerm(term(wantApplied(a, l)), term(made)) || wantApplied(b, l) != made {
			t.Fatalf("no test: %s and %s by %v", a, b, l)
		}
		found, _, _ := unified(t, a, b)
		comesFromIt(t, a, b, l)
		if a != b {
			unlike++
		}
		if slices.ContainsFunc(found, func(text string) bool { return cellsIn(text) > 3 }) {
			deep++
		}
		if wantApplied(a, found) != made {
			own++
		}
	}
	if unlike < 5000 || deep < 1000 || own < 1000 {
		t.Error("too few of a kind:", unlike, deep, own)
	}
}

func TestAllSmallTermsMadeAlike(t *testing.T) {
	all := smallTerms(3, 2)
	var others [][]string
	for _, one := range all {
		for _, other := range all {
			others = append(others, substitution("$1", one, "$2", other))
		}
	}
	made := make([]map[string]string, len(others))
	for i, l := range others {
		made[i] = map[string]string{}
		for _, text := range all {
			made[i][text] = wantApplied(text, l)
		}
	}
	told, not := 0, 0
	for _, a := range all {
		for _, b := range all {
			_, is, ok := unified(t, a, b)
			if !ok {
				t.Fatalf("UnifyTerms(%s, %s): no room", a, b)
			}
			for i, l := range others {
				if made[i][a] == made[i][b] {
					comesFromIt(t, a, b, l)
				}
			}
			if is {
				told++
			} else {
				not++
			}
		}
	}
	if told < 50 || not < 50 {
		t.Error("too few of a kind:", told, not)
	}
}

// instance holds IsInstance of two good terms.
func instance(t *testing.T, a, b string) bool {
	t.Helper()
	want := wantMade(a, b, map[string]string{})
	is, ok := impl.IsInstance(term(a), term(b))
	if is != want || !ok {
		t.Fatalf("IsInstance(%s, %s) = %v, %v; want %v", a, b, is, ok, want)
	}
	return is
}

func TestIsInstance(t *testing.T) {
	for _, x := range []struct {
		a, b string
		want bool
	}{
		{"a", "a", true},
		{"a", "b", false},
		{"a", "$1", true},
		{"$1", "a", false},
		{"$1", "$1", true},
		{"$1", "$2", true},
		{"f($1)", "$1", true},
		{"$1", "f($1)", false},
		{"f(a,a)", "f($1,$1)", true},
		{"f(a,b)", "f($1,$1)", false},
		{"f(a,b)", "f($1,$2)", true},
		{"f(a,a)", "f($1,$2)", true},
		{"f($2,$1)", "f($1,$2)", true},
		{"f($1,$1)", "f($1,$2)", true},
		{"f($1,$2)", "f($1,$1)", false},
		{"f($1,$2)", "f(a,$2)", false},
		{"f(a,$2)", "f($2,$1)", true},
		{"f(g($1),g($1))", "f($1,$1)", true},
		{"f($1,g($1))", "f($1,$1)", false},
		{"f($1,g($1))", "f($2,g($2))", true},
		{"f(g(a),a)", "f(g($1),$1)", true},
		{"f(g(a),b)", "f(g($1),$1)", false},
		{"f(g(a,b),h,g(a,b))", "f($6,$5,$6)", true},
		{"f(g(a,b),h,g(a,c))", "f($6,$5,$6)", false},
		{"f(g(a,b),h,g(a))", "f($6,$5,$6)", false},
		{"f(a)", "f(a,$1)", false},
		{"f(a,b)", "f($1)", false},
		{"f", "f($1)", false},
		{"f(a)", "f", false},
		{"f(a)", "g($1)", false},
		{"f(a,g)", "f($1,h)", false},
		{"f(f(a),a)", "f($1,b)", false},
		{"f($1,$2,$3,$4,$5)", "f($5,$4,$3,$2,$1)", true},
		{chain(30, "a"), "$1", true},
		{chain(30, "a"), chain(30, "$1"), true},
		{chain(30, "a"), chain(30, "b"), false},
		{chain(29, "a"), chain(30, "$1"), false},
		{chain(30, "a"), chain(29, "$1"), true},
		{wide(30), wide(30), true},
	} {
		if instance(t, x.a, x.b) != x.want {
			t.Errorf("IsInstance(%s, %s) is not %v", x.a, x.b, x.want)
		}
	}
}

// All that makes the one the other is terms of the other, so that of small terms it is all tried.
func TestInstancesOfAllSmallTerms(t *testing.T) {
	all := smallTerms(4, 2)
	made := map[[2]string]bool{}
	for _, one := range all {
		for _, other := range all {
			for _, b := range all {
				made[[2]string{wantApplied(b, substitution("$1", one, "$2", other)), b}] = true
			}
		}
	}
	is := 0
	for _, a := range all {
		for _, b := range all {
			if instance(t, a, b) != made[[2]string{a, b}] {
				t.Fatalf("IsInstance(%s, %s) is not %v", a, b, made[[2]string{a, b}])
			}
			if made[[2]string{a, b}] {
				is++
			}
		}
	}
	if is < 100 || is > len(all)*len(all)/2 {
		t.Error("too few of a kind:", is)
	}
}

func TestRandomInstances(t *testing.T) {
	source := rand.New(rand.NewSource(24))
	is, not := 0, 0
	for range 20000 {
		a, b, _, made := randomAlike(source)
		if !instance(t, made, a) || !instance(t, made, b) {
			t.Fatalf("%s is an instance of %s and %s", made, a, b)
		}
		for _, pair := range [][2]string{{a, b}, {b, a}, {a, made}, {cutAnywhere(source, made, 6), a}} {
			if instance(t, pair[0], pair[1]) {
				is++
			} else {
				not++
			}
		}
	}
	if is < 5000 || not < 5000 {
		t.Error("too few of a kind:", is, not)
	}
}
