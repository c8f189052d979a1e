package tests

import (
	"math"
	"math/rand"
	"slices"
	"strconv"
	"strings"
	"testing"

	"loop.example/g00333/impl"
)

func TestTypeConstants(t *testing.T) {
	limits := []int{impl.MaxTypes, impl.MaxDeep}
	kinds := []int{impl.TypeNumber, impl.TypeText, impl.TypeEnum, impl.TypeList, impl.TypeMessage}
	if !slices.Equal(limits, []int{30, 5}) || !slices.Equal(kinds, []int{1, 2, 3, 4, 5}) {
		t.Error(limits, kinds)
	}
}

// wideSchema is a whole with that many parts, all numbers.
func wideSchema(parts int) impl.Schema {
	s := impl.Schema{Types: []impl.Type{{Kind: impl.TypeMessage, Up: -1}}}
	for no := 1; no <= parts; no++ {
		s.Types = append(s.Types, impl.Type{Kind: impl.TypeNumber, Name: "p" + string([]byte{byte('a' + no/26), byte('a' + no%26)}), No: no, Up: 0})
	}
	return s
}

func fullSchema() impl.Schema {
	return wideSchema(impl.MaxTypes - 1)
}

func goodSchemas() []impl.Schema {
	l := []impl.Schema{
		fullSchema(),
		schema("{" + strings.Repeat("a:1 {", 4) + strings.Repeat("}", 5)),
		schema("{" + strings.Repeat("a:1 {", 4) + "b:30! text" + strings.Repeat("}", 5)),
		schema("{a:1 " + strings.Repeat("[", 4) + "enum(20)" + strings.Repeat("]", 4) + "}"),
	}
	for _, text := range []string{
		"{}",
		"{a:1 num}", "{a:30 num}", "{abcdefghij:1! num}", "{a:1! num,z:30 text}",
		"{e:2 enum(0),f:3 enum(20)}",
		"{a:1 {a:1 num},b:2 {a:1 num}}",
		"{a:1 {},b:2 {}}",
		"{l:1 [num],m:2 [{}],n:3 [[text]]}",
		"{a:1 [{b:1 [{c:1 num}]}],b:2 {c:1 [num]},c:3 num}",
	} {
		l = append(l, schema(text))
	}
	return l
}

// with is the schema with one of its types changed.
func with(s impl.Schema, k int, change func(t *impl.Type)) impl.Schema {
	s = copyOf(s)
	change(&s.Types[k])
	return s
}

func wrongSchemas() []impl.Schema {
	small := schema("{a:2! num,b:4 [enum(3)],c:5 {d:1 text}}")
	l := []impl.Schema{{}, {Types: []impl.Type{}}, wideSchema(impl.MaxTypes), wideSchema(1000)}
	l = append(l,
		impl.Schema{Types: small.Types[1:]},
		impl.Schema{Types: []impl.Type{{Kind: impl.TypeNumber, Up: -1}}},
		impl.Schema{Types: []impl.Type{{Kind: impl.TypeList, Up: -1}, {Kind: impl.TypeNumber}}},
		impl.Schema{Types: []impl.Type{{Kind: impl.TypeMessage, Up: 0}}},
		impl.Schema{Types: []impl.Type{{Kind: impl.TypeMessage}}},
	)
	for _, change := range []func(*impl.Type){
		func(t *impl.Type) { t.Name = "a" }, func(t *impl.Type) { t.No = 1 }, func(t *impl.Type) { t.Must = true },
		func(t *impl.Type) { t.Most = 1 }, func(t *impl.Type) { t.Up = -2 }, func(t *impl.Type) { t.Up = 1 },
		func(t *impl.Type) { t.Kind = impl.TypeList },
	} {
		l = append(l, with(small, 0, change))
	}
	for _, text := range []string{
		"{a:0 num}", "{a:31 num}", "{a:-1 num}",
		"{a:1 num,b:1 num}", "{a:2 num,b:1 num}", "{a:1 num,b:3 num,c:2 num}", "{a:5 {b:2 num,c:2 num}}", "{a:1 {x:1 {}},b:1 {}}",
		"{a:1 num,a:2 num}", "{a:1 num,b:2 {},a:3 text}", "{x:1 {a:1 num,b:2 num,a:3 num}}",
		"{:1 num}", "{abcdefghijk:1 num}", "{A:1 num}", "{a1:1 num}", "{a_b:1 num}", "{`:1 num}", "{{:1 num}", "{\xc3\xa9:1 num}", "{a b:1 num}", "{ab\x00:1 num}",
		"{e:1 enum(-1)}", "{e:1 enum(21)}", "{e:1 [enum(21)]}",
		"{l:1 []}", "{l:1 [],m:2 num}", "{l:1 [[]]}", "{l:1 [],m:2 {a:1 num}}",
		"{" + strings.Repeat("a:1 {", 5) + strings.Repeat("}", 6),
		"{a:1 " + strings.Repeat("[", 5) + "num" + strings.Repeat("]", 5) + "}",
		"{a:1 num,b:2 " + strings.Repeat("[{a:1 ", 2) + "{}" + strings.Repeat("}]", 2) + "}",
	} {
		l = append(l, schema(text))
	}
	item := 3 // small's enum, the list's part
	for _, change := range []func(*impl.Type){
		func(t *impl.Type) { t.Name = "x" }, func(t *impl.Type) { t.No = 1 }, func(t *impl.Type) { t.Must = true },
		func(t *impl.Type) { t.Up = 3 }, func(t *impl.Type) { t.Up = 4 }, func(t *impl.Type) { t.Up = -1 },
		func(t *impl.Type) { t.Up = 1 }, func(t *impl.Type) { t.Up = 1000 }, func(t *impl.Type) { t.Up = 0 },
		func(t *impl.Type) { t.Kind = 0 }, func(t *impl.Type) { t.Kind = 6 }, func(t *impl.Type) { t.Kind = -1 },
		func(t *impl.Type) { t.Kind = impl.TypeNumber }, func(t *impl.Type) { t.Kind = impl.TypeText },
		func(t *impl.Type) { t.Kind = impl.TypeList }, func(t *impl.Type) { t.Kind = impl.TypeMessage },
		func(t *impl.Type) { t.Kind = math.MinInt }, func(t *impl.Type) { t.Up = math.MaxInt }, func(t *impl.Type) { t.Up = math.MinInt },
	} {
		l = append(l, with(small, item, change))
	}
	for _, k := range []int{1, 2, 4, 5} { // a Most where the kind has none
		l = append(l, with(small, k, func(t *impl.Type) { t.Most = 1 }), with(small, k, func(t *impl.Type) { t.Most = -1 }))
	}
	// A list with two parts, and one whose part stands behind another one.
	two := schema("{l:1 [num]}")
	two.Types = append(two.Types, impl.Type{Kind: impl.TypeNumber, Up: 1})
	late := schema("{l:1 [],m:2 num}")
	late.Types = append(late.Types, impl.Type{Kind: impl.TypeNumber, Up: 1})
	// A message whose part stands behind what follows it.
	apart := schema("{a:1 {b:1 num},c:2 num}")
	apart.Types = append(apart.Types, impl.Type{Kind: impl.TypeNumber, Name: "d", No: 2, Up: 1})
	return append(l, two, late, apart)
}

func TestGoodSchema(t *testing.T) {
	for i, s := range goodSchemas() {
		if !impl.GoodSchema(s) || !wantGood(s) {
			t.Errorf("good schema %d is refused: %v", i, s)
		}
	}
	for i, s := range wrongSchemas() {
		if impl.GoodSchema(s) || wantGood(s) {
			t.Errorf("wrong schema %d is taken: %v", i, s)
		}
	}
}

func TestGoodSchemaOfSchemasNearlyGood(t *testing.T) {
	source := rand.New(rand.NewSource(2))
	good, wrong := 0, 0
	for range 60000 {
		s := randomSchema(source, 1+source.Intn(12))
		if !impl.GoodSchema(s) {
			if wantGood(s) {
				t.Fatal("refused:", s)
			}
			continue // two Names alike
		}
		p := &s.Types[source.Intn(len(s.Types))]
		switch source.Intn(6) {
		case 0:
			p.Up = source.Intn(len(s.Types)+2) - 1
		case 1:
			p.Kind = source.Intn(7)
		case 2:
			p.No = source.Intn(33) - 1
		case 3:
			p.Most = source.Intn(24) - 1
		case 4:
			p.Must = !p.Must
		case 5:
			p.Name = strings.Repeat("b", source.Intn(12))
		}
		if impl.GoodSchema(s) != wantGood(s) {
			t.Fatalf("GoodSchema(%v) = %v", s, !wantGood(s))
		}
		if wantGood(s) {
			good++
		} else {
			wrong++
		}
	}
	if good < 1000 || wrong < 1000 {
		t.Error("too few of a kind:", good, wrong)
	}
}

// All seven give the zero answer at schemas that are not good, whichever argument is one.
func TestWrongSchemasGiveZeroAnswers(t *testing.T) {
	good := schema("{a:1 num}")
	for i, s := range wrongSchemas() {
		for _, k := range []int{-1, 0, 1, 30} {
			if l, ok := impl.FieldsOf(s, k); len(l) != 0 || ok {
				t.Errorf("wrong schema %d: FieldsOf %d: %v, %v", i, k, l, ok)
			}
			if sub, ok := impl.SubSchema(s, k); len(sub.Types) != 0 || ok {
				t.Errorf("wrong schema %d: SubSchema %d: %v, %v", i, k, sub, ok)
			}
		}
		if d, ok := impl.DeepOf(s); d != 0 || ok {
			t.Errorf("wrong schema %d: DeepOf: %v, %v", i, d, ok)
		}
		for _, pair := range [][2]impl.Schema{{s, good}, {good, s}, {s, s}} {
			if is, ok := impl.IsSubtype(pair[0], pair[1]); is || ok {
				t.Errorf("wrong schema %d: IsSubtype: %v, %v", i, is, ok)
			}
			if m, ok := impl.MeetOf(pair[0], pair[1]); len(m.Types) != 0 || ok {
				t.Errorf("wrong schema %d: MeetOf: %v, %v", i, m, ok)
			}
			if j, ok := impl.JoinOf(pair[0], pair[1]); len(j.Types) != 0 || ok {
				t.Errorf("wrong schema %d: JoinOf: %v, %v", i, j, ok)
			}
		}
	}
}

func TestFieldsOf(t *testing.T) {
	s := schema("{a:1 [{b:1 [{c:1 num}]}],b:2 {c:1 [num],d:2 text},c:3 num,d:4 {}}")
	want := [][]int{{1, 6, 10, 11}, {2}, {3}, {4}, {5}, {}, {7, 9}, {8}, {}, {}, {}, {}}
	for k, l := range want {
		if got, ok := impl.FieldsOf(s, k); !slices.Equal(got, l) || !ok {
			t.Errorf("FieldsOf %d: %v, %v", k, got, ok)
		}
	}
	for _, k := range []int{-1, 12, 13, 30, math.MinInt, math.MaxInt} {
		if got, ok := impl.FieldsOf(s, k); len(got) != 0 || ok {
			t.Errorf("FieldsOf %d: %v, %v", k, got, ok)
		}
	}
	if got, ok := impl.FieldsOf(fullSchema(), 0); len(got) != impl.MaxTypes-1 || got[28] != 29 || !ok {
		t.Error("FieldsOf of the most parts", got, ok)
	}
}

func TestSubSchema(t *testing.T) {
	s := schema("{a:1 [{b:1! [{c:1 num}]}],b:2! {c:1 [enum(4)],d:2! text},c:3 num,d:4! {}}")
	for k, want := range map[int]string{
		0:  "{a:1 [{b:1! [{c:1 num}]}],b:2! {c:1 [enum(4)],d:2! text},c:3 num,d:4! {}}",
		2:  "{b:1! [{c:1 num}]}",
		4:  "{c:1 num}",
		6:  "{c:1 [enum(4)],d:2! text}",
		11: "{}",
	} {
		if got, ok := impl.SubSchema(s, k); !sameSchema(got, schema(want)) || !ok {
			t.Errorf("SubSchema %d: %v, %v", k, got, ok)
		}
	}
	for _, k := range []int{-1, 1, 3, 5, 7, 8, 9, 10, 12, 30, math.MinInt, math.MaxInt} {
		if got, ok := impl.SubSchema(s, k); len(got.Types) != 0 || ok {
			t.Errorf("SubSchema %d: %v, %v", k, got, ok)
		}
	}
}

func TestDeepOf(t *testing.T) {
	for text, want := range map[string]int{
		"{}": 1, "{a:1 num}": 1, "{a:1 {}}": 2, "{a:1 [num]}": 2, "{a:1 [{}]}": 3, "{a:1 {b:1 {}},b:2 {}}": 3,
		"{a:1 num,b:2 [[[text]]],c:3 {}}":           4,
		"{a:1 [[[[enum(1)]]]]}":                     5,
		"{a:1 {a:1 {a:1 {a:1 {a:1 num}}}},b:2 num}": 5,
	} {
		if got, ok := impl.DeepOf(schema(text)); got != want || !ok {
			t.Errorf("DeepOf %s: %d, %v", text, got, ok)
		}
	}
}

func TestIsSubtypeOfKnownSchemas(t *testing.T) {
	for _, row := range []struct {
		a, b string
		want bool
	}{
		{"{}", "{}", true},
		{"{a:1 num}", "{}", true},
		{"{}", "{a:1 num}", false},
		{"{a:1 num,b:2 text}", "{b:1 num}", true},
		{"{a:1 num}", "{a:2 num}", false},
		{"{a:1 num}", "{a:1 text}", false},
		{"{a:1 text}", "{a:1 num}", false},
		{"{a:1 enum(3)}", "{a:1 num}", false},
		{"{a:1 num}", "{a:1 enum(3)}", false},
		{"{a:1! num}", "{a:1 num}", true},
		{"{a:1 num}", "{a:1! num}", false},
		{"{a:1! num}", "{a:1! num}", true},
		{"{a:1 enum(0)}", "{a:1 enum(20)}", true},
		{"{a:1 enum(20)}", "{a:1 enum(0)}", false},
		{"{a:1 enum(5)}", "{b:1 enum(5)}", true},
		{"{a:1 enum(6)}", "{b:1 enum(5)}", false},
		{"{a:1 [num]}", "{a:1 [num]}", true},
		{"{a:1 [num]}", "{a:1 [text]}", false},
		{"{a:1 [num]}", "{a:1 num}", false},
		{"{a:1 {}}", "{a:1 [{}]}", false},
		{"{a:1 [{}]}", "{a:1 {}}", false},
		{"{a:1 [enum(2)]}", "{a:1 [enum(3)]}", true},
		{"{a:1 [enum(3)]}", "{a:1 [enum(2)]}", false},
		{"{a:1 [[num]]}", "{a:1 [[text]]}", false},
		{"{a:1 [{b:1! num,c:2 num}]}", "{a:1 [{x:1 num}]}", true},
		{"{a:1 [{b:1 num}]}", "{a:1 [{x:1! num}]}", false},
		{"{a:1 {b:1! num,c:2 num}}", "{z:1 {x:1 num}}", true},
		{"{a:1 {b:1 num}}", "{a:1 {b:1 num,c:2 num}}", false},
		{"{a:1! {b:1 {c:1! num}}}", "{a:1 {b:1 {c:1 num}}}", true},
		{"{a:1! {b:1 {c:1 num}}}", "{a:1 {b:1 {c:1! num}}}", false},
	} {
		if is, ok := impl.IsSubtype(schema(row.a), schema(row.b)); is != row.want || !ok {
			t.Errorf("IsSubtype(%s, %s) = %v, %v", row.a, row.b, is, ok)
		}
	}
}

func TestMeetOfKnownSchemas(t *testing.T) {
	for _, row := range []struct{ a, b, want string }{
		{"{}", "{}", "{}"},
		{"{}", "{a:1! [num]}", "{a:1! [num]}"},
		{"{a:1! [num]}", "{}", "{a:1! [num]}"},
		{"{a:1 num,c:3 text}", "{b:2! num}", "{a:1 num,b:2! num,c:3 text}"},
		{"{b:2! num}", "{a:1 num,c:3 text}", "{a:1 num,b:2! num,c:3 text}"},
		{"{a:1 num,z:30 text}", "{b:1! num,y:30 text}", "{a:1! num,z:30 text}"},
		{"{a:1! num}", "{b:1 num}", "{a:1! num}"},
		{"{a:1 num}", "{b:1 num}", "{a:1 num}"},
		{"{e:1 enum(0),f:2 enum(20)}", "{g:1 enum(20),h:2 enum(7)}", "{e:1 enum(0),f:2 enum(7)}"},
		{"{a:1 [enum(3)]}", "{b:1! [enum(2)]}", "{a:1! [enum(2)]}"},
		{"{a:1 [[enum(3)]]}", "{b:1 [[enum(5)]]}", "{a:1 [[enum(3)]]}"},
		{"{a:1 {b:1 num,d:3 text}}", "{x:1 {y:1! num,z:2 {}}}", "{a:1 {b:1! num,z:2 {},d:3 text}}"},
		{"{a:1 [{b:1 num}]}", "{a:1 [{c:2 num}]}", "{a:1 [{b:1 num,c:2 num}]}"},
		{"{a:1 num}", "{a:1 text}", ""},
		{"{a:1 num}", "{a:1 enum(3)}", ""},
		{"{a:1 {}}", "{a:1 [{}]}", ""},
		{"{a:1 [num]}", "{a:1 [text]}", ""},
		{"{a:1 [[num]]}", "{a:1 [[{}]]}", ""},
		{"{a:1 {b:1 num}}", "{a:1 {b:1 text}}", ""},
		{"{a:1 num}", "{a:2 num}", ""},
		{"{a:1 {b:1 num}}", "{a:1 {b:2 num}}", ""},
		{"{a:1 num}", "{b:1 num,a:2 num}", ""},
		{"{b:1 num,a:2 num}", "{a:1 num}", "{b:1 num,a:2 num}"},
	} {
		met, ok := impl.MeetOf(schema(row.a), schema(row.b))
		if row.want == "" && (ok || len(met.Types) != 0) || row.want != "" && (!ok || !sameSchema(met, schema(row.want))) {
			t.Errorf("MeetOf(%s, %s) = %v, %v", row.a, row.b, met, ok)
		}
	}
}

func TestJoinOfKnownSchemas(t *testing.T) {
	for _, row := range []struct{ a, b, want string }{
		{"{}", "{}", "{}"},
		{"{}", "{a:1! [num]}", "{}"},
		{"{a:1! [num]}", "{}", "{}"},
		{"{a:1 num,c:3 text}", "{b:2! num,d:3 text}", "{c:3 text}"},
		{"{a:1! num,z:30 text}", "{b:1! num,y:30! text}", "{a:1! num,z:30 text}"},
		{"{a:1! num}", "{b:1 num}", "{a:1 num}"},
		{"{e:1 enum(0),f:2 enum(20)}", "{g:1 enum(20),h:2 enum(7)}", "{e:1 enum(20),f:2 enum(20)}"},
		{"{a:1 num,b:2 num}", "{a:1 text,b:2 num}", "{b:2 num}"},
		{"{a:1 num,b:2 num}", "{a:1 enum(2),b:2 {}}", "{}"},
		{"{a:1 [enum(3)]}", "{b:1! [enum(2)]}", "{a:1 [enum(3)]}"},
		{"{a:1 [num],b:2 num}", "{a:1 [text],b:2 num}", "{b:2 num}"},
		{"{a:1 [[num]],b:2! num}", "{a:1 [[text]],b:2! num}", "{b:2! num}"},
		{"{a:1 [[[num]]]}", "{a:1 [[[{}]]]}", "{}"},
		{"{a:1 [{b:1 [num],c:2 num}]}", "{a:1 [{b:1 [text],c:2 num}]}", "{a:1 [{c:2 num}]}"},
		{"{a:1 {b:1 num,d:3! text}}", "{x:1 {y:1! text,z:3! text}}", "{a:1 {d:3! text}}"},
		{"{a:1! {b:1 num}}", "{x:1! {y:2 num}}", "{a:1! {}}"},
		{"{a:1 num}", "{b:1 num,a:2 num}", "{a:1 num}"},
	} {
		joined, ok := impl.JoinOf(schema(row.a), schema(row.b))
		if !ok || !sameSchema(joined, schema(row.want)) {
			t.Errorf("JoinOf(%s, %s) = %v, %v", row.a, row.b, joined, ok)
		}
	}
}

// With exactly MaxTypes both together are a good schema, with one more they are none.
func TestMeetOfMayHaveMaxTypes(t *testing.T) {
	halves := func(first int) (impl.Schema, impl.Schema) {
		var a, b []string
		for no := 1; no <= first; no++ {
			a = append(a, "a"+string([]byte{byte('a' + no)})+":"+strconv.Itoa(no)+" num")
		}
		for no := first + 1; no <= 30; no++ {
			b = append(b, "b"+string([]byte{byte('a' + no - first)})+":"+strconv.Itoa(no)+" num")
		}
		return schema("{" + strings.Join(a, ",") + "}"), schema("{" + strings.Join(b, ",") + "}")
	}
	a, b := halves(15)
	if met, ok := impl.MeetOf(a, b); len(met.Types) != 0 || ok {
		t.Error("a meet of 31 types", met, ok)
	}
	a.Types = a.Types[:len(a.Types)-1]
	met, ok := impl.MeetOf(a, b)
	if len(met.Types) != impl.MaxTypes || !ok {
		t.Error("a meet of MaxTypes types", met, ok)
	}
	takenInByBoth(t, a, b)
}

func takenInByBoth(t *testing.T, a, b impl.Schema) bool {
	t.Helper()
	met, ok := impl.MeetOf(a, b)
	want, wantOk := wantMeet(a, b)
	if !sameSchema(met, want) || ok != wantOk {
		t.Fatalf("MeetOf(%v, %v) = %v, %v; want %v, %v", a, b, met, ok, want, wantOk)
	}
	if !ok {
		return false
	}
	isA, okA := impl.IsSubtype(met, a)
	isB, okB := impl.IsSubtype(met, b)
	if !isA || !okA || !isB || !okB {
		t.Fatalf("MeetOf(%v, %v) = %v is not taken in by both", a, b, met)
	}
	return true
}

func takesInBoth(t *testing.T, a, b impl.Schema) {
	t.Helper()
	joined, ok := impl.JoinOf(a, b)
	if want := wantJoin(a, b); !sameSchema(joined, want) || !ok {
		t.Fatalf("JoinOf(%v, %v) = %v, %v; want %v", a, b, joined, ok, want)
	}
	isA, okA := impl.IsSubtype(a, joined)
	isB, okB := impl.IsSubtype(b, joined)
	if !isA || !okA || !isB || !okB {
		t.Fatalf("JoinOf(%v, %v) = %v does not take in both", a, b, joined)
	}
}

func takesInItself(t *testing.T, s impl.Schema) {
	t.Helper()
	if is, ok := impl.IsSubtype(s, s); !is || !ok {
		t.Fatalf("IsSubtype(%v, itself) = %v, %v", s, is, ok)
	}
	if met, ok := impl.MeetOf(s, s); !sameSchema(met, s) || !ok {
		t.Fatalf("MeetOf(%v, itself) = %v, %v", s, met, ok)
	}
	if joined, ok := impl.JoinOf(s, s); !sameSchema(joined, s) || !ok {
		t.Fatalf("JoinOf(%v, itself) = %v, %v", s, joined, ok)
	}
}

func TestTypesOfKnownSchemas(t *testing.T) {
	known := goodSchemas()
	for _, a := range known {
		takesInItself(t, a)
		for _, b := range known {
			takenInByBoth(t, a, b)
			takesInBoth(t, a, b)
			for _, c := range known {
				takesInInTurn(t, a, b, c)
			}
		}
	}
}

// takesInInTurn tells whether there was anything to ask.
func takesInInTurn(t *testing.T, a, b, c impl.Schema) bool {
	t.Helper()
	ab, okAB := impl.IsSubtype(a, b)
	bc, okBC := impl.IsSubtype(b, c)
	ac, okAC := impl.IsSubtype(a, c)
	if !okAB || !okBC || !okAC || ab != wantSubtype(a, b) || bc != wantSubtype(b, c) || ac != wantSubtype(a, c) {
		t.Fatalf("IsSubtype of %v, %v, %v: %v, %v, %v", a, b, c, ab, bc, ac)
	}
	if ab && bc && !ac {
		t.Fatalf("%v is one of %v, and that one of %v, but not the first of the last", a, b, c)
	}
	return ab && bc
}

func randomGoodSchema(source *rand.Rand) impl.Schema {
	for {
		if s := randomSchema(source, 1+source.Intn(impl.MaxTypes)); wantGood(s) {
			return s
		}
	}
}

func TestTypesOfRandomSchemas(t *testing.T) {
	source := rand.New(rand.NewSource(3))
	meets, none, turns := 0, 0, 0
	for range 6000 {
		a := randomGoodSchema(source)
		b, c := nearTo(source, a), randomGoodSchema(source)
		if !wantGood(b) {
			continue // two Names alike
		}
		takesInItself(t, a)
		for _, pair := range [][2]impl.Schema{{a, b}, {b, a}, {a, c}} {
			takesInBoth(t, pair[0], pair[1])
			if takenInByBoth(t, pair[0], pair[1]) {
				meets++
			} else {
				none++
			}
		}
		ab, _ := impl.JoinOf(a, b)
		abc, _ := impl.JoinOf(ab, c)
		for _, three := range [][3]impl.Schema{{a, b, c}, {b, a, c}, {a, ab, abc}, {b, ab, abc}, {c, abc, abc}, {ab, a, b}} {
			if takesInInTurn(t, three[0], three[1], three[2]) {
				turns++
			}
		}
	}
	if meets < 1000 || none < 1000 || turns < 1000 {
		t.Error("too few of a kind:", meets, none, turns)
	}
}

// DeepOf, FieldsOf and SubSchema, against what the ways say.
func TestPartsOfRandomSchemas(t *testing.T) {
	source := rand.New(rand.NewSource(4))
	for range 4000 {
		s := randomGoodSchema(source)
		deepest := 0
		for way, typ := range waysIn(s) {
			if typ.Kind >= impl.TypeList {
				deepest = max(deepest, len(way)+1)
			}
		}
		if d, ok := impl.DeepOf(s); d != deepest || !ok {
			t.Fatalf("DeepOf(%v) = %d, %v", s, d, ok)
		}
		for k := range s.Types {
			partsAndSub(t, s, k)
		}
	}
}

func partsAndSub(t *testing.T, s impl.Schema, k int) {
	t.Helper()
	var parts []int
	end := k + 1
	for i, p := range s.Types {
		if p.Up == k {
			parts = append(parts, i)
		}
		if i > k && end == i && p.Up >= k {
			end = i + 1
		}
	}
	if l, ok := impl.FieldsOf(s, k); !slices.Equal(l, parts) || !ok {
		t.Fatalf("FieldsOf(%v, %d) = %v, %v", s, k, l, ok)
	}
	sub, ok := impl.SubSchema(s, k)
	if s.Types[k].Kind != impl.TypeMessage {
		if ok || len(sub.Types) != 0 {
			t.Fatalf("SubSchema(%v, %d) = %v, %v", s, k, sub, ok)
		}
		return
	}
	want := impl.Schema{Types: slices.Clone(s.Types[k:end])}
	for i := range want.Types {
		want.Types[i].Up -= k
	}
	want.Types[0] = impl.Type{Kind: impl.TypeMessage, Up: -1}
	if !ok || !sameSchema(sub, want) {
		t.Fatalf("SubSchema(%v, %d) = %v, %v", s, k, sub, ok)
	}
}
