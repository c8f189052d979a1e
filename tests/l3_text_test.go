package tests

import (
	"math"
	"math/rand"
	"slices"
	"strings"
	"testing"

	"loop.example/g00333/impl"
)

func TestTextConstants(t *testing.T) {
	if impl.MaxSource != 400 {
		t.Error(impl.MaxSource)
	}
}

func TestTextOfASchemaWrittenOut(t *testing.T) {
	s := impl.Schema{Types: []impl.Type{
		{Kind: impl.TypeMessage, Up: -1},
		{Kind: impl.TypeNumber, Name: "n", No: 1, Must: true},
		{Kind: impl.TypeList, Name: "l", No: 3},
		{Kind: impl.TypeMessage, Up: 2},
		{Kind: impl.TypeText, Name: "t", No: 12, Up: 3},
		{Kind: impl.TypeEnum, Name: "e", No: 30, Must: true, Up: 3, Most: 20},
		{Kind: impl.TypeMessage, Name: "m", No: 4, Must: true},
	}}
	const text = "{n:1! num,l:3 [{t:12 text,e:30! enum(20)}],m:4! {}}"
	if got, ok := impl.SchemaText(s); got != text || !ok {
		t.Errorf("SchemaText = %q, %v", got, ok)
	}
	if got, at, ok := impl.ReadSchema(text); !sameSchema(got, s) || at != 0 || !ok {
		t.Error("ReadSchema", got, at, ok)
	}
	if got, ok := impl.TidySchema(text); got != text || !ok {
		t.Errorf("TidySchema = %q, %v", got, ok)
	}
}

// comesBack holds promise 3 at a good schema; it tells whether its text is short enough.
func comesBack(t *testing.T, s impl.Schema) bool {
	t.Helper()
	want := wantText(s)
	text, ok := impl.SchemaText(s)
	if len(want) > impl.MaxSource {
		if text != "" || ok {
			t.Fatalf("SchemaText of a text of %d bytes: %q, %v", len(want), text, ok)
		}
		return false
	}
	if text != want || !ok {
		t.Fatalf("SchemaText(%v) = %q, %v; want %q", s, text, ok, want)
	}
	if read, at, ok := impl.ReadSchema(text); !sameSchema(read, s) || at != 0 || !ok {
		t.Fatalf("ReadSchema(%q) = %v, %d, %v", text, read, at, ok)
	}
	if tidy, ok := impl.TidySchema(text); tidy != text || !ok {
		t.Fatalf("TidySchema(%q) = %q, %v", text, tidy, ok)
	}
	return true
}

// readsAs holds one text against what the document asks of it.
func readsAs(t *testing.T, text string) bool {
	t.Helper()
	want, wantAt, wantOk := wantRead(text)
	s, at, ok := impl.ReadSchema(text)
	if !sameSchema(s, want) || at != wantAt || ok != wantOk {
		t.Fatalf("ReadSchema(%q) = %v, %d, %v; want %v, %d, %v", text, s, at, ok, want, wantAt, wantOk)
	}
	tidy, tidyOk := impl.TidySchema(text)
	wantTidy := ""
	if ok && len(wantText(want)) <= impl.MaxSource {
		wantTidy = wantText(want)
	}
	if tidy != wantTidy || tidyOk != (wantTidy != "") {
		t.Fatalf("TidySchema(%q) = %q, %v; want %q", text, tidy, tidyOk, wantTidy)
	}
	if again, ok := impl.TidySchema(tidy); again != tidy || ok != tidyOk {
		t.Fatalf("TidySchema(%q) = %q, %v: what is tidy does not stay so", tidy, again, ok)
	}
	return ok
}

func TestGoodSchemasComeBackFromTheirTexts(t *testing.T) {
	for i, s := range goodSchemas() {
		if !comesBack(t, s) {
			t.Errorf("the text of schema %d is too long: %s", i, wantText(s))
		}
	}
	for _, text := range []string{
		"{}", "{a:1 num}", "{a:30! text}", "{abcdefghij:1! num}", "{e:1 enum(0),f:9 enum(9),g:10 enum(10),h:30 enum(20)}",
		"{num:1 num,text:2 text,enum:3 enum(3)}", "{a:1 [[[[num]]]]}", "{a:1 {a:1 {a:1 {a:1 {a:1 num}}}}}",
		"{z:1 num,y:2 num,x:10 num}", "{a:1! [{b:2! [text]}],c:20! {d:1! {}}}",
	} {
		if got, ok := impl.SchemaText(schema(text)); got != text || !ok {
			t.Errorf("SchemaText = %q, %v; want %q", got, ok, text)
		}
		comesBack(t, schema(text))
	}
}

func TestWrongSchemasHaveNoText(t *testing.T) {
	for i, s := range wrongSchemas() {
		if text, ok := impl.SchemaText(s); text != "" || ok {
			t.Errorf("wrong schema %d: %q, %v", i, text, ok)
		}
	}
}

func TestRandomSchemasComeBackFromTheirTexts(t *testing.T) {
	source := rand.New(rand.NewSource(5))
	short, long := 0, 0
	for range 4000 {
		s := randomGoodSchema(source)
		if source.Intn(4) == 0 {
			for k := range s.Types[1:] {
				if name := s.Types[k+1].Name; name != "" && len(name) < 5 {
					s.Types[k+1].Name = name + strings.Repeat("z", 10-len(name))
				}
			}
		}
		if !wantGood(s) {
			continue
		}
		if comesBack(t, s) {
			short++
		} else {
			long++
		}
	}
	if short < 1000 || long < 10 {
		t.Error("too few of a kind:", short, long)
	}
}

func TestTextsOfMaxSource(t *testing.T) {
	for _, typ := range []string{"num", "text", "enum(20)", "enum(0)", "[num]", "{}", "[{}]"} {
		for bytes := 398; bytes <= 403; bytes++ {
			text := tidyTextOf(typ, "enum(7)", bytes)
			s := schema(text)
			if len(text) != bytes || !wantGood(s) {
				t.Fatalf("no test: %d bytes, %s", len(text), text)
			}
			if comesBack(t, s) != (bytes <= impl.MaxSource) {
				t.Errorf("%d bytes of %s", bytes, typ)
			}
			if !readsAs(t, text) && bytes <= impl.MaxSource {
				t.Errorf("%d bytes of %s are not read", bytes, typ)
			}
		}
	}
	blanks := strings.Repeat(" ", 398)
	for _, text := range []string{"{}" + blanks, blanks + "{}", "{" + blanks + "}", "{" + strings.Repeat("\n", 398) + "}"} {
		if s, at, ok := impl.ReadSchema(text); !sameSchema(s, schema("{}")) || at != 0 || !ok {
			t.Error("400 bytes:", s, at, ok)
		}
		for _, longer := range []string{text + " ", " " + text, text + "x", "x" + text, "{a:" + text} {
			if s, at, ok := impl.ReadSchema(longer); len(s.Types) != 0 || at != 0 || ok {
				t.Error("beyond MaxSource:", s, at, ok)
			}
			if tidy, ok := impl.TidySchema(longer); tidy != "" || ok {
				t.Error("beyond MaxSource:", tidy, ok)
			}
		}
	}
}

// A text may do without the blank ahead of `[` and `{` that its tidy form has, and so be the shorter one.
func TestTidyFormMayBeTooLong(t *testing.T) {
	for _, typ := range []string{"{}", "[num]"} {
		for bytes, tidies := range map[int]bool{400: true, 401: false} {
			tidy := tidyTextOf(typ, "enum(7)", bytes)
			text := strings.Replace(tidy, "! ", "!", 1)
			if s, at, ok := impl.ReadSchema(text); !sameSchema(s, schema(tidy)) || at != 0 || !ok {
				t.Error("ReadSchema:", s, at, ok)
			}
			if got, ok := impl.TidySchema(text); ok != tidies || ok && got != tidy || !ok && got != "" {
				t.Errorf("TidySchema of what is tidy with %d bytes: %q, %v", bytes, got, ok)
			}
		}
	}
}

func TestBlanksAroundEachToken(t *testing.T) {
	for _, tidy := range []string{
		"{}", "{a:1 num}", "{a:1! text}", "{a:1 enum(0),b:12! enum(20)}", "{a:1 [num],b:2! [[text]]}",
		"{a:1 {},b:2! {c:1 {d:1! num}},e:30 [{f:3! enum(7)}]}",
	} {
		tokens := textToken.FindAllString(tidy, -1)
		for _, blanks := range []string{" ", "\n", "  ", "\n\n", " \n", "\n ", "   \n"} {
			all := spread(tokens, func(bool) string { return blanks })
			few := spread(tokens, func(must bool) string {
				if must {
					return blanks
				}
				return ""
			})
			for _, text := range []string{all, few} {
				if s, at, ok := impl.ReadSchema(text); !sameSchema(s, schema(tidy)) || at != 0 || !ok {
					t.Errorf("ReadSchema(%q) = %v, %d, %v", text, s, at, ok)
				}
				if got, ok := impl.TidySchema(text); got != tidy || !ok {
					t.Errorf("TidySchema(%q) = %q, %v", text, got, ok)
				}
			}
			// One gap alone at a time, at each place that has none.
			for one := range len(tokens) + 1 {
				at := -1
				text := spread(tokens, func(must bool) string {
					at++
					if must || at == one {
						return blanks
					}
					return ""
				})
				if got, ok := impl.TidySchema(text); got != tidy || !ok {
					t.Errorf("TidySchema(%q) = %q, %v", text, got, ok)
				}
			}
		}
	}
}

func TestTextsThatAreNotTidy(t *testing.T) {
	for text, tidy := range map[string]string{
		"{ list:3 [ text ] , n : 1 ! num }": "{n:1! num,list:3 [text]}",
		"{a:1[num]}":                        "{a:1 [num]}",
		"{a:1![num]}":                       "{a:1! [num]}",
		"{a:1{}}":                           "{a:1 {}}",
		"{a:1!{}}":                          "{a:1! {}}",
		"{a:1 !{}}":                         "{a:1! {}}",
		"{a:1 ! num}":                       "{a:1! num}",
		"{a:1\nnum}":                        "{a:1 num}",
		"{a:1!\nnum}":                       "{a:1! num}",
		"{a:1 enum ( 7 ) }":                 "{a:1 enum(7)}",
		"\n{a:30 num,b:1 num}\n":            "{b:1 num,a:30 num}",
		"{c:3 num,b:2 num,a:1 num}":         "{a:1 num,b:2 num,c:3 num}",
		"{b:10 num,a:9 num}":                "{a:9 num,b:10 num}",
		"{z:2 {y:9[{b:2 num,a:1 text}],x:8 num},a:1 {}}": "{a:1 {},z:2 {x:8 num,y:9 [{a:1 text,b:2 num}]}}",
	} {
		if got, ok := impl.TidySchema(text); got != tidy || !ok {
			t.Errorf("TidySchema(%q) = %q, %v", text, got, ok)
		}
		if s, at, ok := impl.ReadSchema(text); !sameSchema(s, schema(tidy)) || at != 0 || !ok {
			t.Errorf("ReadSchema(%q) = %v, %d, %v", text, s, at, ok)
		}
		readsAs(t, text)
	}
}

func refusedAt(t *testing.T, text string, want int) {
	t.Helper()
	if s, at, ok := impl.ReadSchema(text); len(s.Types) != 0 || at != want || ok {
		t.Errorf("ReadSchema(%q) = %v, %d, %v; want %d", text, s, at, ok, want)
	}
	if tidy, ok := impl.TidySchema(text); tidy != "" || ok {
		t.Errorf("TidySchema(%q) = %q, %v", text, tidy, ok)
	}
	if _, at, ok := wantRead(text); at != want || ok {
		t.Errorf("the reference says of %q: %d, %v; want %d", text, at, ok, want)
	}
}

// A `^` stands ahead of the first byte that cannot stand there.
func TestPlacesOfWrongBytes(t *testing.T) {
	for _, marked := range []string{
		"^", "^x", "^}", "^[num]", "^num", "^1", "  ^", "\n ^num", "^\x00{}", "^\t{}", "^\xff", "^é{}",
		"{^", "{^{}}", "{^,}", "{^1:1 num}", "{^A:1 num}", "{^:1 num}", "{^]", "{ ^!}", "{^[num]}", "{^é:1 num}", "{^\x00}",
		"{a^", "{a^}", "{a^1:1 num}", "{a^B:1 num}", "{a^-b:1 num}", "{a ^b:1 num}", "{a^é:1 num}", "{a^,b:1 num}", "{a ^",
		"{abcdefghij^k:1 num}", "{abcdefghij^", "{a:1 num,abcdefghij^klm:2 num}",
		"{a:^", "{a: ^num}", "{a:^}", "{a:^-1 num}", "{a:^+1 num}", "{a:^:1 num}", "{a:^! num}", "{a: ^x}", "{a:^[num]}",
		"{a:0^1 num}", "{a:0^0 num}", "{a:12^3 num}", "{a:30^0 num}", "{a:1^.0 num}", "{a:1 ^2 num}", "{a:1\n^2 num}",
		"{a:1^", "{a:1^num}", "{a:1^text}", "{a:1^enum(3)}", "{a:12^num}", "{a:1!^num}", "{a:12!^text}", "{a:1 !^enum(1)}", "{a:0^num}",
		"{a:1!^", "{a:1!^! num}", "{a:1!^1 num}", "{a:1! ^! num}", "{a:1 ^}", "{a:1 ^,b:2 num}", "{a:1^}", "{a:1^:num}", "{a:1^x}", "{a:1^(3)}",
		"{a:1 ^xum}", "{a:1 ^Num}", "{a:1 n^", "{a:1 nu^", "{a:1 nu^t}", "{a:1 n^ um}", "{a:1 nu^ m}", "{a:1 num^b}", "{a:1 num^1}", "{a:1 num^:}",
		"{a:1 t^", "{a:1 te^st}", "{a:1 tex^}", "{a:1 text^s}", "{a:1 text^(3)}", "{a:1 num^(3)}",
		"{a:1 e^", "{a:1 en^}", "{a:1 enu^n(1)}", "{a:1 enum^}", "{a:1 enum^s(1)}", "{a:1 enum^1}", "{a:1 enum ^[1]}",
		"{a:1 enum(^", "{a:1 enum(^)}", "{a:1 enum(^-1)}", "{a:1 enum( ^a)}", "{a:1 enum(0^1)}", "{a:1 enum(0^0)}", "{a:1 enum(20^0)}", "{a:1 enum(1 ^2)}",
		"{a:1 enum(3^", "{a:1 enum(3^}", "{a:1 enum(3^])}", "{a:1 enum(3)^)}", "{a:1 enum(3) ^4}",
		"{a:1 [^", "{a:1 [^]}", "{a:1 [^}", "{a:1[^a:1 num]}", "{a:1 [num^", "{a:1 [num^}", "{a:1 [num^,num]}", "{a:1 [num ^text]}", "{a:1 [[num]^}", "{a:1 [^(]}", "{a:1 [{^]",
		"{a:1 num^", "{a:1 num ^", "{a:1 num^]", "{a:1 num ^b:2 num}", "{a:1 num^{}}", "{a:1 num^!}",
		"{a:1 num,^", "{a:1 num,^}", "{a:1 num,^,b:2 num}", "{a:1 num, ^2:b num}",
		"{a:1 {^", "{a:1 {^]", "{a:1 {}^", "{a:1 {}^]", "{a:1 {b:1 num}^", "{a:1 {b:1 num}^b:2 num}",
		"{}^}", "{}^{}", "{}^,", "{} ^x", "{}\n^1", "{}^\x00", "{}^\t", "{}^\r\n", "{a:1 num}^]", "{a:1 num} ^num",
	} {
		before, behind, _ := strings.Cut(marked, "^")
		refusedAt(t, before+behind, len(before))
	}
}

func TestTextsOfNoGoodSchema(t *testing.T) {
	thirty := wantText(wideSchema(impl.MaxTypes))
	for _, text := range []string{
		"{a:0 num}", "{a:31 num}", "{a:99 num}", "{a:1 {b:0 num}}", " {a:0! num} ",
		"{a:1 num,b:1 num}", "{a:2 num,c:1 num,b:2 num}", "{a:1 {x:3 {},y:3 {}}}",
		"{a:1 num,a:2 num}", "{a:3 num,b:2 num,a:1 text}", "{x:1 [{a:2 num,a:1 num}]}",
		"{e:1 enum(21)}", "{e:1 enum(99)}", "{e:1 [enum(21)]}",
		thirty, "{a:1 " + strings.Repeat("[", 100) + "num" + strings.Repeat("]", 100) + "}",
		"{" + strings.Repeat("a:1{", 78) + strings.Repeat("}", 79),
		"{a:1 [[[[[num]]]]]}", "{a:1 {a:1 {a:1 {a:1 {a:1 {}}}}}}", "{a:1 {a:1 [{a:1 [{}]}]}}\n",
	} {
		if len(text) > impl.MaxSource {
			t.Fatal("no test:", len(text), text)
		}
		refusedAt(t, text, len(text))
	}
	// A byte that cannot stand there counts ahead of what is no good schema.
	for text, at := range map[string]int{
		"{a:0 num,}": 9, "{a:31 num": 9, "{a:1 num,a:1 num}}": 17, "{e:1 enum(99)x}": 13,
		"{a:1 [[[[[[[num]]]]]]}": 21, thirty + "x": len(thirty),
	} {
		refusedAt(t, text, at)
	}
}

func TestEachByteAtEachPlace(t *testing.T) {
	for _, text := range []string{"{}", "{b:12! enum(20),a:1[{c:3 text}]}", " {ab : 2 ! num ,\nc:10 enum ( 7 ) , d:9{}}"} {
		readsAs(t, text)
		for at := range len(text) + 1 {
			readsAs(t, text[:at])
			for b := range 256 {
				mark := string([]byte{byte(b)})
				readsAs(t, text[:at]+mark+text[at:])
				if at < len(text) {
					readsAs(t, text[:at]+mark+text[at+1:])
				}
			}
			if at < len(text) {
				readsAs(t, text[:at]+text[at+1:])
			}
		}
	}
}

func TestRandomTexts(t *testing.T) {
	source := rand.New(rand.NewSource(6))
	const marks = "{}[]():!,  \n\nabnumtextenum0123456789A\x00\xc3"
	read, refused, noGood := 0, 0, 0
	for range 8000 {
		s := randomSchema(source, 1+source.Intn(10))
		text := spread(tokensInAnyOrder(source, s, 0), randomGap(source, 1+source.Intn(12)))
		if got, at, ok := impl.ReadSchema(text); wantGood(s) && len(text) <= impl.MaxSource && (!sameSchema(got, s) || at != 0 || !ok) {
			t.Fatalf("ReadSchema(%q) = %v, %d, %v; want %v", text, got, at, ok, s)
		}
		for range source.Intn(3) {
			at := source.Intn(len(text))
			mark := source.Intn(len(marks))
			switch source.Intn(4) {
			case 0:
				text = text[:at] + text[at+1:] + " "
			case 1:
				text = text[:at] + marks[mark:mark+1] + text[at:]
			case 2:
				text = text[:at] + marks[mark:mark+1] + text[at+1:]
			case 3:
				text = text[:at] + text[at+1:] + text[at:at+1]
			}
		}
		_, at, _ := wantRead(text)
		switch {
		case readsAs(t, text):
			read++
		case at == len(text):
			noGood++
		default:
			refused++
		}
	}
	if read < 1000 || refused < 1000 || noGood < 100 {
		t.Error("too few of a kind:", read, refused, noGood)
	}
}

// leadsBack holds PathOf and TypeAt at each type of a good schema against the ways of the types.
func leadsBack(t *testing.T, s impl.Schema) {
	t.Helper()
	for k := range s.Types {
		var names []string
		inMessages := true
		for at := k; at > 0; at = s.Types[at].Up {
			names = append(names, s.Types[at].Name)
			inMessages = inMessages && s.Types[s.Types[at].Up].Kind == impl.TypeMessage
		}
		slices.Reverse(names)
		want := strings.Join(names, ".")
		if !inMessages {
			want = ""
		}
		path, ok := impl.PathOf(s, k)
		if path != want || ok != inMessages {
			t.Fatalf("PathOf(%v, %d) = %q, %v; want %q, %v", s, k, path, ok, want, inMessages)
		}
		if at, is := impl.TypeAt(s, path); ok && (at != k || !is) {
			t.Fatalf("TypeAt(%v, %q) = %d, %v", s, path, at, is)
		}
	}
}

func TestPathsOfKnownSchema(t *testing.T) {
	s := schema("{a:1! {b:1 num,c:2 [{d:1 num}],e:3 {b:1 text}},ab:2 [[{a:1 num}]],b:3 enum(2)}")
	for k, path := range map[int]string{0: "", 1: "a", 2: "a.b", 3: "a.c", 6: "a.e", 7: "a.e.b", 8: "ab", 12: "b"} {
		if got, ok := impl.PathOf(s, k); got != path || !ok {
			t.Errorf("PathOf %d: %q, %v; want %q", k, got, ok, path)
		}
		if at, ok := impl.TypeAt(s, path); at != k || !ok {
			t.Errorf("TypeAt %q: %d, %v; want %d", path, at, ok, k)
		}
	}
	for _, k := range []int{4, 5, 9, 10, 11, -1, 13, 14, 30, math.MinInt, math.MaxInt} {
		if got, ok := impl.PathOf(s, k); got != "" || ok {
			t.Errorf("PathOf %d: %q, %v", k, got, ok)
		}
	}
	for _, path := range []string{
		"c", "abc", "a.a", "a.b.b", "b.a", "b.b", "a.e.b.a", "a.c.d", "a.c.", "a.c..d", "ab.a", "ab...a", "d", "e.b",
		".", "..", ".a", "a.", "a..b", "a.b.", ".a.b", "a. b", " a", "a ", "A", "a,b", "a/b",
		"a:1", "{}", "\x00", "a\x00", "\xff", "é", "0", "1", strings.Repeat("a.", 30) + "b", strings.Repeat("a", 1<<16),
	} {
		if at, ok := impl.TypeAt(s, path); at != 0 || ok {
			t.Errorf("TypeAt %q: %d, %v", path, at, ok)
		}
	}
}

func TestPathsLeadBack(t *testing.T) {
	for _, s := range goodSchemas() {
		leadsBack(t, s)
	}
	source := rand.New(rand.NewSource(7))
	for range 2000 {
		leadsBack(t, randomGoodSchema(source))
	}
	deep := schema("{" + strings.Repeat("abcdefghij:1 {", 4) + "abcdefghij:1 num" + strings.Repeat("}", 5))
	longest := strings.Repeat("abcdefghij.", 4) + "abcdefghij"
	if path, ok := impl.PathOf(deep, 5); path != longest || !ok {
		t.Error("the longest path:", path, ok)
	}
	if k, ok := impl.TypeAt(deep, longest); k != 5 || !ok {
		t.Error("the longest path:", k, ok)
	}
}

func TestWrongSchemasHaveNoPaths(t *testing.T) {
	for i, s := range wrongSchemas() {
		for _, k := range []int{-1, 0, 1, 30} {
			if path, ok := impl.PathOf(s, k); path != "" || ok {
				t.Errorf("wrong schema %d: PathOf %d: %q, %v", i, k, path, ok)
			}
		}
		for _, path := range []string{"", "a", "a.b", "."} {
			if k, ok := impl.TypeAt(s, path); k != 0 || ok {
				t.Errorf("wrong schema %d: TypeAt %q: %d, %v", i, path, k, ok)
			}
		}
	}
}
