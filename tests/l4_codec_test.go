package tests

import (
	"math/rand"
	"slices"
	"strconv"
	"strings"
	"testing"

	"loop.example/g00333/impl"
)

func TestCodecConstants(t *testing.T) {
	if impl.MaxNodes != 40 || impl.MaxString != 30 {
		t.Error(impl.MaxNodes, impl.MaxString)
	}
}

// valueComesBack holds promise 4 at a value that fits; it tells whether its bytes are few enough.
func valueComesBack(t *testing.T, v impl.Value, s impl.Schema) bool {
	t.Helper()
	if !impl.FitsSchema(v, s) || !wantFits(v, s) {
		t.Fatalf("%v does not fit %s", v, wantText(s))
	}
	if many, ok := impl.NodesIn(v, s); many != len(v.Nodes) || !ok {
		t.Fatalf("NodesIn of %d nodes: %d, %v", len(v.Nodes), many, ok)
	}
	want := wantBytes(v, s)
	b, ok := impl.EncodeValue(v, s)
	if len(want) > impl.MaxWire {
		if b != "" || ok {
			t.Fatalf("EncodeValue of what has %d bytes: %x, %v", len(want), b, ok)
		}
		return false
	}
	if b != want || !ok {
		t.Fatalf("EncodeValue(%v) by %s = %x, %v; want %x", v, wantText(s), b, ok, want)
	}
	if is, ok := impl.IsValid(b, s); !is || !ok {
		t.Fatalf("IsValid(%x) by %s: %v, %v", b, wantText(s), is, ok)
	}
	if got, ok := impl.DecodeValue(b, s); !sameValue(got, v) || !ok {
		t.Fatalf("DecodeValue(%x) by %s = %v, %v; want %v", b, wantText(s), got, ok, v)
	}
	return true
}

// tells holds bytes and a good schema against what the document asks; it tells whether they are valid.
func tells(t *testing.T, b string, s impl.Schema) bool {
	t.Helper()
	want, wantValid := wantTold(b, s)
	if is, ok := impl.IsValid(b, s); is != wantValid || !ok {
		t.Fatalf("IsValid(%x) by %s: %v, %v; want %v", b, wantText(s), is, ok, wantValid)
	}
	decodes := wantValid && len(want.Nodes) <= impl.MaxNodes
	if !decodes {
		want = impl.Value{}
	}
	v, ok := impl.DecodeValue(b, s)
	if !sameValue(v, want) || ok != decodes {
		t.Fatalf("DecodeValue(%x) by %s = %v, %v; want %v, %v", b, wantText(s), v, ok, want, decodes)
	}
	if decodes {
		again, ok := impl.EncodeValue(v, s)
		if !ok || again != wantBytes(want, s) || len(again) > len(b) || len(again) == len(b) && again != b {
			t.Fatalf("EncodeValue of DecodeValue(%x) by %s = %x, %v", b, wantText(s), again, ok)
		}
	}
	return wantValid
}

func notValid(t *testing.T, name, b string, s impl.Schema) {
	t.Helper()
	if is, ok := impl.IsValid(b, s); is || !ok {
		t.Errorf("%s: IsValid(%x) = %v, %v", name, b, is, ok)
	}
	if v, ok := impl.DecodeValue(b, s); len(v.Nodes) != 0 || ok {
		t.Errorf("%s: DecodeValue(%x) = %v, %v", name, b, v, ok)
	}
	if tells(t, b, s) {
		t.Errorf("%s: the reference takes %x", name, b)
	}
}

func fitsNot(t *testing.T, name string, v impl.Value, s impl.Schema) {
	t.Helper()
	if impl.FitsSchema(v, s) || wantFits(v, s) {
		t.Errorf("%s: %v fits %v; the reference says %v", name, v, s, wantFits(v, s))
	}
	if b, ok := impl.EncodeValue(v, s); b != "" || ok {
		t.Errorf("%s: EncodeValue = %x, %v", name, b, ok)
	}
	if many, ok := impl.NodesIn(v, s); many != 0 || ok {
		t.Errorf("%s: NodesIn = %d, %v", name, many, ok)
	}
	for no := range 32 {
		if part, ok := impl.GetPart(v, s, no); len(part.Nodes) != 0 || ok {
			t.Errorf("%s: GetPart %d = %v, %v", name, no, part, ok)
		}
	}
}

func TestValuesWrittenOut(t *testing.T) {
	s := schema("{n:1! num,t:2 text,l:3 [num],m:4 {x:1 enum(2)}}")
	v := impl.Value{Nodes: []impl.Node{
		{Up: -1, Many: true}, {No: 1, Num: 5}, {No: 2, Text: "hi"},
		{No: 3, Many: true}, {Up: 3, Num: -1}, {Up: 3, Num: 2}, {No: 4, Many: true}, {No: 1, Up: 6, Num: 2},
	}}
	if w := value("{1:5,2:'hi',3:[-1,2],4:{1:2}}"); !sameValue(v, w) {
		t.Fatal("the notation of these tests:", w)
	}
	for _, x := range []struct{ schema, value, bytes string }{
		{"{}", "{}", ""},
		{"{n:1! num,t:2 text,l:3 [num],m:4 {x:1 enum(2)}}", "{1:5,2:'hi',3:[-1,2],4:{1:2}}", "\x08\x0a\x12\x02hi\x1a\x02\x01\x04\x22\x02\x08\x04"},
		{"{n:1 num,t:2 text,l:3 [num],m:4 {x:1 enum(2)}}", "{}", ""},
		{"{n:1 num,t:2 text}", "{2:''}", "\x12\x00"},
		{"{n:1 num,t:2 text}", "{1:0}", "\x08\x00"},
		{"{n:30 num}", "{30:-1}", "\xf0\x01\x01"},
		{"{n:15 text,o:16 text}", "{15:'a',16:'b'}", "\x7a\x01a\x82\x01\x01b"},
		{"{n:1 num,m:2 num}", "{1:1000000000,2:-1000000000}", "\x08\x80\xa8\xd6\xb9\x07\x10\xff\xa7\xd6\xb9\x07"},
		{"{e:1 enum(0),f:2 enum(20)}", "{1:0,2:20}", "\x08\x00\x10\x28"},
		{"{l:1 [num]}", "{1:[]}", "\x0a\x00"},
		{"{l:1 [text]}", "{1:[]}", "\x0a\x00"},
		{"{l:1 [num]}", "{1:[0,-1,1,300,-300]}", "\x0a\x07\x00\x01\x02\xd8\x04\xd7\x04"},
		{"{l:1 [enum(3)]}", "{1:[3,0,1]}", "\x0a\x03\x06\x00\x02"},
		{"{l:1 [text]}", "{1:['a','','bc']}", "\x0a\x06\x01a\x00\x02bc"},
		{"{l:1 [[num]]}", "{1:[[1,2],[],[-1]]}", "\x0a\x06\x02\x02\x04\x00\x01\x01"},
		{"{l:1 [[text]]}", "{1:[['a'],[''],[]]}", "\x0a\x06\x02\x01a\x01\x00\x00"},
		{"{l:1 [{a:1 num,b:2 text}]}", "{1:[{1:1},{},{1:2,2:'x'}]}", "\x0a\x0a\x02\x08\x02\x00\x05\x08\x04\x12\x01x"},
		{"{l:1 [{}]}", "{1:[{},{},{}]}", "\x0a\x03\x00\x00\x00"},
		{"{l:1 [[[[num]]]]}", "{1:[[[[5]]]]}", "\x0a\x04\x03\x02\x01\x0a"},
		{"{a:1 {a:1 {a:1 {a:1 {a:1 num}}}}}", "{1:{1:{1:{1:{1:-3}}}}}", "\x0a\x08\x0a\x06\x0a\x04\x0a\x02\x08\x05"},
		{"{m:1! {n:1! num},o:2! {}}", "{1:{1:7},2:{}}", "\x0a\x02\x08\x0e\x12\x00"},
		{"{m:1 {l:1 [{n:1! num}]},z:2 num}", "{1:{1:[{1:1},{1:2}]},2:3}", "\x0a\x08\x0a\x06\x02\x08\x02\x02\x08\x04\x10\x06"},
	} {
		s, v := schema(x.schema), value(x.value)
		if b, ok := impl.EncodeValue(v, s); b != x.bytes || !ok {
			t.Errorf("EncodeValue(%s) by %s = %x, %v; want %x", x.value, x.schema, b, ok, x.bytes)
		}
		if got, ok := impl.DecodeValue(x.bytes, s); !sameValue(got, v) || !ok {
			t.Errorf("DecodeValue(%x) by %s = %v, %v; want %v", x.bytes, x.schema, got, ok, v)
		}
		if !valueComesBack(t, v, s) || !tells(t, x.bytes, s) {
			t.Errorf("%s by %s does not come back", x.value, x.schema)
		}
	}
	if !valueComesBack(t, v, s) {
		t.Error("the value written out does not come back")
	}
}

// allTexts has texts in place of numbers and enums, so that its values have many bytes.
func allTexts(s impl.Schema) impl.Schema {
	for k := range s.Types {
		if s.Types[k].Kind <= impl.TypeEnum {
			s = with(s, k, func(t *impl.Type) { t.Kind, t.Most = impl.TypeText, 0 })
		}
	}
	return s
}

func TestRandomValuesComeBack(t *testing.T) {
	source := rand.New(rand.NewSource(8))
	short, long, full := 0, 0, 0
	for range 20000 {
		s := randomGoodSchema(source)
		if source.Intn(2) == 0 {
			s = allTexts(s)
		}
		v := randomValue(source, s)
		if valueComesBack(t, v, s) {
			short++
			tells(t, wantBytes(v, s), s)
		} else {
			long++
		}
		if len(v.Nodes) >= 30 {
			full++
		}
	}
	if short < 5000 || long < 50 || full < 100 {
		t.Error("too few of a kind:", short, long, full)
	}
}

func repeatedText(piece string, times int) string {
	return strings.TrimSuffix(strings.Repeat(piece+",", times), ",")
}

func TestMaxNodes(t *testing.T) {
	for _, x := range []struct{ schema, item, bytes string }{
		{"{l:1 [num]}", "-64", "\x7f"},
		{"{l:1 [enum(1)]}", "1", "\x02"},
		{"{l:1 [text]}", "'ab'", "\x02ab"},
		{"{l:1 [[num]]}", "[]", "\x00"},
		{"{l:1 [{}]}", "{}", "\x00"},
		{"{l:1 [{a:1 num}]}", "{}", "\x00"},
	} {
		s := schema(x.schema)
		for items := 36; items <= 60; items++ {
			v := value("{1:[" + repeatedText(x.item, items) + "]}")
			b := wireField(data(1, strings.Repeat(x.bytes, items)))
			if fits := items+2 <= impl.MaxNodes; fits {
				if !valueComesBack(t, v, s) || wantBytes(v, s) != b {
					t.Errorf("%d items of %s do not come back", items, x.schema)
				}
				continue
			}
			fitsNot(t, "too many nodes", v, s)
			// The bytes are valid all the same; there is no value of them.
			if is, ok := impl.IsValid(b, s); !is || !ok {
				t.Errorf("IsValid of %d items: %v, %v", items, is, ok)
			}
			if got, ok := impl.DecodeValue(b, s); len(got.Nodes) != 0 || ok {
				t.Errorf("DecodeValue of %d items: %v, %v", items, got, ok)
			}
			tells(t, b, s)
		}
	}
	// The most nodes in MaxWire bytes: as many items as there are bytes left.
	s := schema("{l:1 [num]}")
	many := "\x0a\x8d\x03" + strings.Repeat("\x02", 397)
	if is, ok := impl.IsValid(many, s); !is || !ok || len(many) != impl.MaxWire {
		t.Error("397 items:", is, ok)
	}
	tells(t, many, s)
	tells(t, many[:399]+"\x80", s)
	// What is unknown is no node: with 40 nodes known, and unknown fields, there is a value.
	b := wireField(data(1, strings.Repeat("\x02", 38))) + wireField(number(2, 1)) + wireField(data(3, "\x00\x00"))
	if v, ok := impl.DecodeValue(b, s); len(v.Nodes) != impl.MaxNodes || !ok {
		t.Error("40 nodes and unknown fields:", len(v.Nodes), ok)
	}
	if v, ok := impl.DecodeValue(b, schema("{l:1 [num],n:2 num}")); len(v.Nodes) != 0 || ok {
		t.Error("41 nodes:", len(v.Nodes), ok)
	}
	wide := fullSchema()
	all := "{"
	for no := 1; no < impl.MaxTypes; no++ {
		all += strconv.Itoa(no) + ":1,"
	}
	if !valueComesBack(t, value(all+"}"), wide) {
		t.Error("all parts of a full schema do not come back")
	}
}

func TestTextsOfMaxString(t *testing.T) {
	for _, x := range []struct{ schema, ahead, behind string }{
		{"{t:2 text}", "{2:'", "'}"},
		{"{l:1 [text]}", "{1:['a','", "']}"},
		{"{m:1 {t:2 text}}", "{1:{2:'", "'}}"},
		{"{l:1 [{t:2! text}]}", "{1:[{2:''},{2:'", "'}]}"},
		{"{l:1 [[text]]}", "{1:[[],['", "']]}"},
	} {
		s := schema(x.schema)
		for bytes := 28; bytes <= 33; bytes++ {
			v := value(x.ahead + strings.Repeat("t", bytes) + x.behind)
			if bytes <= impl.MaxString {
				if !valueComesBack(t, v, s) {
					t.Errorf("a text of %d bytes in %s", bytes, x.schema)
				}
				continue
			}
			fitsNot(t, "a text too long", v, s)
			notValid(t, "a text too long", wantBytes(v, s), s)
		}
	}
}

func TestTextsOfAnyBytes(t *testing.T) {
	s := schema("{t:1 text,l:2 [text]}")
	for b := range 256 {
		mark := string([]byte{byte(b)})
		for _, text := range []string{mark, mark + "x", "x" + mark, mark + mark, strings.Repeat(mark, impl.MaxString)} {
			v := impl.Value{Nodes: []impl.Node{{Up: -1, Many: true}, {No: 1, Text: text}, {No: 2, Many: true}, {Up: 2, Text: text}, {Up: 2}, {Up: 2, Text: text}}}
			if !valueComesBack(t, v, s) {
				t.Errorf("a text of bytes %d", b)
			}
		}
	}
	for _, text := range []string{"'", "é", "\xc3", "\xff\xfe", "\x00", "\n", "\xe2\x82"} {
		v := impl.Value{Nodes: []impl.Node{{Up: -1, Many: true}, {No: 1, Text: text}}}
		if !valueComesBack(t, v, s) {
			t.Errorf("%q", text)
		}
	}
}

func TestNumbersAtTheirBounds(t *testing.T) {
	s := schema("{n:1 num,l:2 [num],m:3 {n:1 num}}")
	for n, fits := range map[int]bool{
		impl.MaxNumber: true, -impl.MaxNumber: true, 0: true, 1: true, -1: true,
		impl.MaxNumber + 1: false, -impl.MaxNumber - 1: false, impl.MaxNumber + 2: false, -impl.MaxNumber - 2: false, 1 << 31: false, -1 << 62: false,
	} {
		for _, nodes := range [][]impl.Node{
			{{Up: -1, Many: true}, {No: 1, Num: n}},
			{{Up: -1, Many: true}, {No: 2, Many: true}, {Up: 1}, {Up: 1, Num: n}},
			{{Up: -1, Many: true}, {No: 3, Many: true}, {Up: 1, No: 1, Num: n}},
		} {
			v := impl.Value{Nodes: nodes}
			if fits && !valueComesBack(t, v, s) {
				t.Errorf("%d does not come back", n)
			}
			if !fits {
				fitsNot(t, "a number beyond its bounds", v, s)
				notValid(t, "a number beyond its bounds", wantBytes(v, s), s)
			}
		}
	}
}

func TestEnumsAtTheirBounds(t *testing.T) {
	for text, most := range map[string]int{
		"{e:1 enum(0),l:2 [enum(0)],m:3 {e:1 enum(0)}}":    0,
		"{e:1 enum(1),l:2 [enum(1)],m:3 {e:1 enum(1)}}":    1,
		"{e:1 enum(20),l:2 [enum(20)],m:3 {e:1 enum(20)}}": 20,
	} {
		s := schema(text)
		for _, n := range []int{-impl.MaxNumber, -2, -1, 0, 1, 2, most - 1, most, most + 1, 20, 21, 64, impl.MaxNumber} {
			for _, nodes := range [][]impl.Node{
				{{Up: -1, Many: true}, {No: 1, Num: n}},
				{{Up: -1, Many: true}, {No: 2, Many: true}, {Up: 1}, {Up: 1, Num: n}},
				{{Up: -1, Many: true}, {No: 3, Many: true}, {Up: 1, No: 1, Num: n}},
			} {
				v := impl.Value{Nodes: nodes}
				if 0 <= n && n <= most {
					if !valueComesBack(t, v, s) {
						t.Errorf("%d of %d does not come back", n, most)
					}
					continue
				}
				fitsNot(t, "an enum beyond its bounds", v, s)
				notValid(t, "an enum beyond its bounds", wantBytes(v, s), s)
			}
		}
	}
}

// textsOf is a value of one list of texts, of the given lengths.
func textsOf(lengths ...int) impl.Value {
	v := impl.Value{Nodes: []impl.Node{{Up: -1, Many: true}, {No: 1, Many: true}}}
	for _, n := range lengths {
		v.Nodes = append(v.Nodes, impl.Node{Up: 1, Text: strings.Repeat("t", n)})
	}
	return v
}

func TestMaxWireBytes(t *testing.T) {
	thirties := slices.Repeat([]int{30}, 12) // each with a byte ahead: 372
	for last, bytes := range map[int]int{23: 399, 24: 400, 25: 401, 26: 402} {
		v, s := textsOf(append(slices.Clone(thirties), last)...), schema("{l:1 [text]}")
		if want := wantBytes(v, s); len(want) != bytes {
			t.Fatal("no test:", len(want), bytes)
		}
		if valueComesBack(t, v, s) != (bytes <= impl.MaxWire) {
			t.Errorf("%d bytes", bytes)
		}
	}
	// Too many bytes in a part of a part already.
	deep := impl.Value{Nodes: []impl.Node{{Up: -1, Many: true}, {No: 1, Many: true}, {Up: 1, Many: true}, {Up: 2, No: 1, Many: true}}}
	for range 36 {
		deep.Nodes = append(deep.Nodes, impl.Node{Up: 3, Text: strings.Repeat("x", 30)})
	}
	if valueComesBack(t, deep, schema("{l:1 [{t:1 [text]}]}")) {
		t.Error("1116 bytes in a part")
	}
	s := schema("{t:1 text}")
	for bytes := 396; bytes <= 405; bytes++ {
		b := wireField(data(1, "known"))
		b += wireField(data(2, strings.Repeat("u", bytes-len(b)-3)))
		if len(b) != bytes {
			t.Fatal("no test:", len(b), bytes)
		}
		is, ok := impl.IsValid(b, s)
		v, told := impl.DecodeValue(b, s)
		within := bytes <= impl.MaxWire
		if is != within || ok != within || told != within || sameValue(v, value("{1:'known'}")) != within || !within && len(v.Nodes) != 0 {
			t.Errorf("%d bytes: %v, %v, %v, %v", bytes, is, ok, v, told)
		}
	}
}

func TestUnknownFieldsArePassedOver(t *testing.T) {
	s := schema("{n:5! num,m:10 {a:5! text},l:20 [{e:5 enum(3)}]}")
	known := value("{5:7,10:{5:'t'},20:[{5:1},{}]}")
	inMessage, inItem := wireField(data(5, "t")), wireField(number(5, 1))
	whole := func(ahead, afterN, message, afterM, item, empty, behind string) string {
		items := wireText(item) + wireText(empty)
		return ahead + wireField(number(5, 7)) + afterN + wireField(data(10, message)) + afterM + wireField(data(20, items)) + behind
	}
	contents := []string{"", "\x00", "\x80", "\xff\xff\xff\xff\xff\xff", "\x28\x0e", strings.Repeat("\x07", 100)}
	for _, make := range []func(no int) []string{
		func(no int) []string {
			var l []string
			for _, content := range contents {
				l = append(l, wireField(data(no, content)))
			}
			return l
		},
		func(no int) []string {
			var l []string
			for _, n := range []int{0, 1, -1, 20, 21, impl.MaxNumber, -impl.MaxNumber} {
				l = append(l, wireField(number(no, n)))
			}
			return l
		},
	} {
		for i, four := range make(4) {
			one, six, eleven, thirty := make(1)[i], make(6)[i], make(11)[i], make(30)[i]
			for _, b := range []string{
				whole(four, "", inMessage, "", inItem, "", ""),
				whole("", six, inMessage, "", inItem, "", ""),
				whole("", "", inMessage, eleven, inItem, "", ""),
				whole("", "", inMessage, "", inItem, "", thirty),
				whole("", "", four+inMessage, "", inItem, "", ""),
				whole("", "", inMessage+six, "", inItem, "", ""),
				whole("", "", inMessage, "", four+inItem, "", ""),
				whole("", "", inMessage, "", inItem+six, "", ""),
				whole("", "", inMessage, "", inItem, one+four, ""),
				whole(one+four, "", inMessage, "", inItem, "", ""),
			} {
				if len(b) > impl.MaxWire {
					t.Fatal("no test:", len(b))
				}
				if is, ok := impl.IsValid(b, s); !is || !ok {
					t.Errorf("IsValid(%x) = %v, %v", b, is, ok)
				}
				v, ok := impl.DecodeValue(b, s)
				if !sameValue(v, known) || !ok {
					t.Errorf("DecodeValue(%x) = %v, %v", b, v, ok)
				}
				if again, ok := impl.EncodeValue(v, s); again != whole("", "", inMessage, "", inItem, "", "") || !ok {
					t.Errorf("EncodeValue of what %x tells: %x, %v", b, again, ok)
				}
				tells(t, b, s)
			}
		}
	}
	if v, ok := impl.DecodeValue("\x08\x02\x12\x01x", schema("{}")); !sameValue(v, value("{}")) || !ok {
		t.Error("all is unknown:", v, ok)
	}
}

func TestRandomUnknownFields(t *testing.T) {
	source := rand.New(rand.NewSource(9))
	with, refused := 0, 0
	for range 20000 {
		s := randomGoodSchema(source)
		v := randomValue(source, s)
		b, put := bytesWithUnknown(source, v, s)
		if len(b) > impl.MaxWire {
			continue
		}
		if got, ok := impl.DecodeValue(b, s); !sameValue(got, v) || !ok {
			t.Fatalf("DecodeValue(%x) by %s = %v, %v; want %v", b, wantText(s), got, ok, v)
		}
		if is, ok := impl.IsValid(b, s); !is || !ok {
			t.Fatalf("IsValid(%x) by %s = %v, %v", b, wantText(s), is, ok)
		}
		if put > 0 {
			with++
		}
		// By a schema with other parts some are unknown, or are not as that one says.
		other := nearTo(source, s)
		if wantGood(other) && !tells(t, b, other) {
			refused++
		}
	}
	if with < 3000 || refused < 300 {
		t.Error("too few of a kind:", with, refused)
	}
}

func TestBytesThatAreNotValid(t *testing.T) {
	s := schema("{n:1! num,t:2 text,l:3 [num],m:4 {x:1! enum(2),y:2 text},k:5 [{x:1! enum(2),y:2 text}],e:6 enum(2),s:7 [text],d:8 [[num]],f:9 [enum(2)]}")
	n := wireField(number(1, 5))
	if !tells(t, n, s) {
		t.Fatal("no test: the part that Must be is not valid alone")
	}
	for name, b := range map[string]string{
		"nothing":                               "",
		"the part that Must be is missing":      wireField(data(2, "a")),
		"only unknown ones":                     wireField(number(20, 5)),
		"Nos that fall":                         wireField(data(2, "a")) + n,
		"unknown Nos that fall":                 n + wireField(number(21, 1)) + wireField(number(20, 1)),
		"an unknown No behind a greater one":    n + wireField(number(20, 1)) + wireField(number(6, 1)),
		"a No twice":                            n + n,
		"a No twice, of either kind":            n + wireField(data(2, "a")) + wireField(data(2, "a")),
		"an unknown No twice":                   n + wireField(number(20, 1)) + wireField(number(20, 1)),
		"an unknown No twice, of either kind":   n + wireField(number(20, 1)) + wireField(data(20, "")),
		"a number as bytes":                     wireField(data(1, "\x0a")),
		"a number as no bytes":                  wireField(data(1, "")),
		"a text as a number":                    n + wireField(number(2, 5)),
		"a list as a number":                    n + wireField(number(3, 5)),
		"a list as 0":                           n + wireField(number(3, 0)),
		"a message as a number":                 n + wireField(number(4, 0)),
		"an enum as bytes":                      n + wireField(data(6, "\x02")),
		"a number too great":                    "\x08" + wireNumber(2*impl.MaxNumber+2),
		"a number too small":                    "\x08" + wireNumber(greatestVarint),
		"an unknown number too great":           n + "\xa0\x01" + wireNumber(2*impl.MaxNumber+2),
		"an unknown number too small":           n + "\xa0\x01" + wireNumber(greatestVarint),
		"an enum too great":                     n + wireField(number(6, 3)),
		"an enum below 0":                       n + wireField(number(6, -1)),
		"a text too long":                       n + wireField(data(2, strings.Repeat("a", 31))),
		"Must is missing in a message":          n + wireField(data(4, "")),
		"Must is missing in one with others":    n + wireField(data(4, wireField(data(2, "y")))),
		"Must is missing in a list":             n + wireField(data(5, "\x00")),
		"Must is missing behind one that has":   n + wireField(data(5, "\x02\x08\x02"+"\x00")),
		"Must is missing ahead of one that has": n + wireField(data(5, "\x00"+"\x02\x08\x02")),
		"an enum too great in a message":        n + wireField(data(4, wireField(number(1, 3)))),
		"an enum too great in a list":           n + wireField(data(5, wireText(wireField(number(1, 3))))),
		"a kind in a message":                   n + wireField(data(4, wireField(data(1, "\x02")))),
		"Nos that fall in a message":            n + wireField(data(4, wireField(data(2, "y"))+wireField(number(1, 1)))),
		"a No twice in a message":               n + wireField(data(4, wireField(number(1, 1))+wireField(number(1, 1)))),
		"unknown ones twice in a message":       n + wireField(data(4, wireField(number(1, 1))+wireField(number(9, 1))+wireField(number(9, 1)))),
		"Nos that fall in a list":               n + wireField(data(5, wireText(wireField(data(2, "y"))+wireField(number(1, 1))))),
		"a message cut off":                     n + wireField(data(4, "\x08")),
		"a message with a wrong tag":            n + wireField(data(4, "\x08\x02\x09\x01")),
		"a message in a list cut off":           n + wireField(data(5, "\x02\x08")),
		"a message in a list with more":         n + wireField(data(5, "\x03\x08\x02")),
		"a message in a list with fewer":        n + wireField(data(5, "\x01\x08\x02")),
		"items with a byte left over":           n + wireField(data(3, "\x02\x80")),
		"an item of two bytes cut off":          n + wireField(data(3, "\x02\xd8")),
		"an item too great":                     n + wireField(data(3, wireNumber(2*impl.MaxNumber+2))),
		"an item too small":                     n + wireField(data(3, wireNumber(greatestVarint))),
		"an item with a needless nought":        n + wireField(data(3, "\x82\x00")),
		"an item that is an enum too great":     n + wireField(data(9, "\x02\x06")),
		"an item that is an enum below 0":       n + wireField(data(9, "\x01")),
		"a text of a list cut off":              n + wireField(data(7, "\x01a\x02b")),
		"a text of a list without bytes":        n + wireField(data(7, "\x01a\x01")),
		"a text of a list with half a length":   n + wireField(data(7, "\x01a\x80")),
		"a text of a list, its length in two":   n + wireField(data(7, "\x81\x00a")),
		"a text of a list too long":             n + wireField(data(7, wireText(strings.Repeat("a", 31)))),
		"a list of a list cut off":              n + wireField(data(8, "\x02\x02")),
		"a list of a list with half a number":   n + wireField(data(8, "\x01\x80")),
		"cut off behind a tag":                  "\x08",
		"cut off in a tag":                      n + "\xa0",
		"cut off in a number":                   "\x08\x80",
		"cut off ahead of a length":             n + "\x12",
		"cut off in a text":                     n + "\x12\x02a",
		"cut off in an unknown text":            n + "\xa2\x01\x02a",
		"a needless nought in a number":         "\x08\x8a\x00",
		"a needless nought in a tag":            "\x88\x00\x0a",
		"a needless nought in a length":         n + "\x12\x81\x00a",
		"a needless nought in an unknown one":   n + "\xa0\x01\x8a\x00",
		"No 0":                                  "\x00\x00" + n,
		"No 31":                                 n + wireNumber(8*31) + "\x02",
		"kind 1":                                n + wireNumber(8*20+1) + "\x02",
		"kind 3":                                n + wireNumber(8*20+3) + "\x00",
		"kind 5 of a known No":                  n + wireNumber(8*2+5) + "\x00",
		"a byte behind all":                     n + "\x00",
	} {
		notValid(t, name, b, s)
	}
}

func TestPiecesOfBytes(t *testing.T) {
	for _, x := range [][2]string{
		{"{n:1! num,t:2 text,l:3 [num],m:4 {x:1 enum(2)}}", "{1:5,2:'hi',3:[-1,2000],4:{1:2}}"},
		{"{l:1! [{a:1! text,b:30 num}],k:2 [[enum(9)]]}", "{1:[{1:'a'},{1:'',30:-9}],2:[[9,0],[]]}"},
		{"{m:1! {m:1! {m:1! {t:1! text}}},s:16 [text]}", "{1:{1:{1:{1:'x'}}},16:['','yz']}"},
	} {
		s := schema(x[0])
		b := wantBytes(value(x[1]), s)
		valid := 0
		for at := range len(b) + 1 {
			tells(t, b[:at], s)
			tells(t, b[at:], s)
			for mark := range 256 {
				one := string([]byte{byte(mark)})
				if tells(t, b[:at]+one+b[at:], s) {
					valid++
				}
				if at < len(b) && tells(t, b[:at]+one+b[at+1:], s) {
					valid++
				}
			}
			if at < len(b) {
				tells(t, b[:at]+b[at+1:], s)
			}
		}
		if valid < 100 {
			t.Error("too few are valid:", valid)
		}
	}
}

func TestRandomBytes(t *testing.T) {
	source := rand.New(rand.NewSource(10))
	valid, refused := 0, 0
	for range 60000 {
		s := randomSchema(source, 1+source.Intn(8))
		if !wantGood(s) {
			continue
		}
		b := []byte(wantBytes(randomValue(source, s), s))
		for range source.Intn(4) {
			at := source.Intn(len(b) + 1)
			switch source.Intn(3) {
			case 0:
				b = slices.Insert(b, at, byte(source.Intn(1<<uint(source.Intn(9)))))
			case 1:
				b = slices.Delete(b, at, min(at+1, len(b)))
			case 2:
				if at < len(b) {
					b[at] += byte(source.Intn(5) - 2)
				}
			}
		}
		if len(b) > impl.MaxWire {
			continue
		}
		if tells(t, string(b), s) {
			valid++
		} else {
			refused++
		}
	}
	if valid < 5000 || refused < 5000 {
		t.Error("too few of a kind:", valid, refused)
	}
}

// withNode is the value with one of its nodes changed.
func withNode(v impl.Value, at int, change func(n *impl.Node)) impl.Value {
	v = impl.Value{Nodes: slices.Clone(v.Nodes)}
	change(&v.Nodes[at])
	return v
}

func TestValuesThatDoNotFit(t *testing.T) {
	s := schema("{n:1! num,t:2 text,l:3 [num],m:4 {x:1! enum(2),y:2 text},k:5 [{x:1! enum(2)}],d:6 [[text]]}")
	for name, text := range map[string]string{
		"a part that Must be is missing":       "{}",
		"Must is missing, others are there":    "{2:'t',3:[]}",
		"Must is missing in a message":         "{1:1,4:{}}",
		"Must is missing ahead of another one": "{1:1,4:{2:'y'}}",
		"Must is missing in a list":            "{1:1,5:[{}]}",
		"Must is missing in one of a list":     "{1:1,5:[{1:1},{},{1:2}]}",
		"parts out of order":                   "{2:'t',1:1}",
		"parts out of order behind a list":     "{1:1,3:[4],2:'t'}",
		"parts out of order in a message":      "{1:1,4:{2:'y',1:1}}",
		"a part twice":                         "{1:1,1:1}",
		"a text twice":                         "{1:1,2:'t',2:'t'}",
		"a list twice":                         "{1:1,3:[],3:[]}",
		"a message twice":                      "{1:1,4:{1:1},4:{1:1}}",
		"a part twice in a list":               "{1:1,5:[{1:1,1:1}]}",
		"a No that the schema does not have":   "{1:1,9:1}",
		"No 0 in a message":                    "{0:1,1:1}",
		"No 0 behind all":                      "{1:1,0:1}",
		"a No below 0":                         "{1:1,-1:1}",
		"a No of another message":              "{1:1,4:{1:1,3:1}}",
		"a message with a No where a list is":  "{1:1,3:{1:4}}",
		"items where a message is":             "{1:1,4:[1]}",
		"a number where a text is":             "{1:1,2:5}",
		"a text where a number is":             "{1:'t'}",
		"a list where a number is":             "{1:[1]}",
		"an empty list where a number is":      "{1:[]}",
		"a message where a number is":          "{1:{}}",
		"a number where a list is":             "{1:1,3:0}",
		"a number where a message is":          "{1:1,4:0}",
		"a text where a list is":               "{1:1,3:''}",
		"a text in a list of numbers":          "{1:1,3:[1,'t']}",
		"a list in a list of numbers":          "{1:1,3:[1,[]]}",
		"a number in a list of lists":          "{1:1,6:[1]}",
		"a number in a list of messages":       "{1:1,5:[1]}",
		"a number in a list of lists of texts": "{1:1,6:[[1]]}",
		"the whole is a text":                  "'t'",
	} {
		fitsNot(t, name, value(text), s)
	}
	fitsNot(t, "the whole is a number", impl.Value{Nodes: []impl.Node{{Up: -1, Num: 5}}}, schema("{}"))
	fitsNot(t, "no node", impl.Value{}, s)
	fitsNot(t, "no node, of an empty schema", impl.Value{Nodes: []impl.Node{}}, schema("{}"))
	fitsNot(t, "the whole twice", impl.Value{Nodes: []impl.Node{{Up: -1, Many: true}, {Up: -1, Many: true}}}, schema("{}"))
	fitsNot(t, "a node in the empty message", impl.Value{Nodes: []impl.Node{{Up: -1, Many: true}, {}}}, schema("{}"))
	for i, wrong := range wrongSchemas() {
		fitsNot(t, "a schema that is not good", value("{}"), wrong)
		fitsNot(t, "a schema that is not good", value("{1:1}"), wrong)
		if v, ok := impl.DefaultOf(wrong); len(v.Nodes) != 0 || ok {
			t.Errorf("wrong schema %d: DefaultOf %v, %v", i, v, ok)
		}
		for _, b := range []string{"", "\x08\x02", "\x0a\x00"} {
			if is, ok := impl.IsValid(b, wrong); is || ok {
				t.Errorf("wrong schema %d: IsValid %v, %v", i, is, ok)
			}
			if v, ok := impl.DecodeValue(b, wrong); len(v.Nodes) != 0 || ok {
				t.Errorf("wrong schema %d: DecodeValue %v, %v", i, v, ok)
			}
		}
	}
}

// Of each kind of node each field that must be zero, and is not, one at a time.
func TestEachFieldOfANode(t *testing.T) {
	s := schema("{n:1! num,t:2! text,e:3! enum(3),l:4! [num],m:5! {a:1! num},k:6! [text]}")
	v := value("{1:4,2:'t',3:2,4:[6,7],5:{1:8},6:['u']}")
	if !valueComesBack(t, v, s) {
		t.Fatal("no test: the value does not come back")
	}
	isText := map[int]int{2: 1, 10: 1}
	isNumber := map[int]int{1: 1, 3: 1, 5: 1, 6: 1, 8: 1}
	for at := range v.Nodes {
		for _, other := range []int{-2, -1, 0, 1, 2, 3, 4, 5, 6, 7, 8, 9, 10, 11, 40, 1 << 62, -1 << 62} {
			if other != v.Nodes[at].Up {
				fitsNot(t, "Up", withNode(v, at, func(n *impl.Node) { n.Up = other }), s)
			}
			if other != v.Nodes[at].No {
				fitsNot(t, "No", withNode(v, at, func(n *impl.Node) { n.No = other }), s)
			}
			if other != 0 && isNumber[at] == 0 {
				fitsNot(t, "Num", withNode(v, at, func(n *impl.Node) { n.Num = other }), s)
			}
		}
		fitsNot(t, "Many", withNode(v, at, func(n *impl.Node) { n.Many = !n.Many }), s)
		if isText[at] == 0 {
			fitsNot(t, "Text", withNode(v, at, func(n *impl.Node) { n.Text = "x" }), s)
		}
		less := impl.Value{Nodes: slices.Delete(slices.Clone(v.Nodes), at, at+1)}
		if impl.FitsSchema(less, s) != wantFits(less, s) {
			t.Errorf("without node %d: %v", at, impl.FitsSchema(less, s))
		}
		twice := impl.Value{Nodes: slices.Insert(slices.Clone(v.Nodes), at, v.Nodes[at])}
		if impl.FitsSchema(twice, s) != wantFits(twice, s) {
			t.Errorf("with node %d twice: %v", at, impl.FitsSchema(twice, s))
		}
	}
}

func TestNearlyFitting(t *testing.T) {
	source := rand.New(rand.NewSource(11))
	fit, not := 0, 0
	for range 60000 {
		s := randomSchema(source, 1+source.Intn(10))
		if !wantGood(s) {
			continue
		}
		v := randomValue(source, s)
		n := &v.Nodes[source.Intn(len(v.Nodes))]
		switch source.Intn(7) {
		case 0:
			n.Up = source.Intn(len(v.Nodes)+2) - 1
		case 1:
			n.No = source.Intn(32)
		case 2:
			n.Num = source.Intn(30) - 4
		case 3:
			n.Text = strings.Repeat("x", source.Intn(32))
		case 4:
			n.Many = !n.Many
		case 5:
			at := source.Intn(len(v.Nodes))
			v.Nodes = slices.Delete(v.Nodes, at, at+1)
		case 6:
			at, other := source.Intn(len(v.Nodes)), source.Intn(len(v.Nodes))
			v.Nodes[at], v.Nodes[other] = v.Nodes[other], v.Nodes[at]
		}
		fits := wantFits(v, s)
		if impl.FitsSchema(v, s) != fits {
			t.Fatalf("FitsSchema(%v) by %s: %v; want %v", v, wantText(s), !fits, fits)
		}
		if fits {
			fit++
			valueComesBack(t, v, s)
			continue
		}
		not++
		if b, ok := impl.EncodeValue(v, s); b != "" || ok {
			t.Fatalf("EncodeValue of what does not fit: %x, %v", b, ok)
		}
	}
	if fit < 3000 || not < 3000 {
		t.Error("too few of a kind:", fit, not)
	}
}

func TestGetPart(t *testing.T) {
	s := schema("{n:1! num,a:2 {},m:4 {x:1! enum(2),y:2 {z:3 [text]}},l:5 [{x:1 num}],k:6 {t:1 text},o:7 {t:1 text}}")
	v := value("{1:5,2:{},4:{1:2,2:{3:['a','b']}},5:[{1:1}],7:{1:'o'}}")
	for no, want := range map[int]string{2: "{}", 4: "{1:2,2:{3:['a','b']}}", 7: "{1:'o'}"} {
		if got, ok := impl.GetPart(v, s, no); !sameValue(got, value(want)) || !ok {
			t.Errorf("GetPart %d = %v, %v; want %s", no, got, ok, want)
		}
	}
	for name, no := range map[string]int{
		"a number": 1, "a list": 5, "a message that is not there": 6, "no part of the schema": 3, "behind all": 8,
		"the whole": 0, "below 0": -1, "30": 30, "31": 31, "the greatest": 1<<63 - 1, "the least": -1 << 63,
	} {
		if got, ok := impl.GetPart(v, s, no); len(got.Nodes) != 0 || ok {
			t.Errorf("%s: %v, %v", name, got, ok)
		}
	}
	// A part of a part has that No, the whole has none.
	if got, ok := impl.GetPart(value("{4:{2:{1:3}}}"), schema("{m:4 {y:2 {z:1 num}}}"), 2); len(got.Nodes) != 0 || ok {
		t.Error("a part of a part:", got, ok)
	}
	part, _ := impl.GetPart(v, s, 4)
	sub, _ := impl.SubSchema(s, 3)
	if inner, ok := impl.GetPart(part, sub, 2); !sameValue(inner, value("{3:['a','b']}")) || !ok {
		t.Error("a part of what GetPart gave:", inner, ok)
	}
	fitsNot(t, "GetPart of what does not fit", value("{2:{}}"), s)
}

// What GetPart gives of a part is what its bytes tell by its schema.
func TestRandomParts(t *testing.T) {
	source := rand.New(rand.NewSource(12))
	there, missing := 0, 0
	for range 8000 {
		s := randomGoodSchema(source)
		v := randomValue(source, s)
		for k, part := range s.Types {
			if part.Up != 0 {
				continue
			}
			got, ok := impl.GetPart(v, s, part.No)
			at := slices.IndexFunc(v.Nodes, func(n impl.Node) bool { return n.Up == 0 && n.No == part.No })
			if part.Kind != impl.TypeMessage || at < 0 {
				if ok || len(got.Nodes) != 0 {
					t.Fatalf("GetPart(%v) of %s, %d: %v", v, wantText(s), part.No, got)
				}
				missing++
				continue
			}
			there++
			sub, _ := impl.SubSchema(s, k)
			if !ok || !wantFits(got, sub) {
				t.Fatalf("GetPart(%v) of %s, %d: %v, %v", v, wantText(s), part.No, got, ok)
			}
			alone := impl.Value{Nodes: []impl.Node{v.Nodes[0]}}
			for _, n := range v.Nodes[at:] {
				if len(alone.Nodes) > 1 && n.Up == 0 {
					break
				}
				n.Up = max(0, n.Up-at+1)
				alone.Nodes = append(alone.Nodes, n)
			}
			if wireField(data(part.No, wantBytes(got, sub))) != wantBytes(alone, s) {
				t.Fatalf("GetPart(%v) of %s, %d: %v", v, wantText(s), part.No, got)
			}
		}
	}
	if there < 1000 || missing < 1000 {
		t.Error("too few of a kind:", there, missing)
	}
}

func TestDefaultOf(t *testing.T) {
	for text, want := range map[string]string{
		"{}":                       "{}",
		"{a:1 num,b:2 {c:1! num}}": "{}",
		"{a:1! num}":               "{1:0}",
		"{a:1! num,b:2 text,c:3! text,d:4! enum(7)}":                "{1:0,3:'',4:0}",
		"{l:1! [num],k:2! [{a:1! num}],m:30! [[text]]}":             "{1:[],2:[],30:[]}",
		"{m:1! {a:1! num,b:2 num,c:3! {d:7! text}},n:2 {a:1! num}}": "{1:{1:0,3:{7:''}}}",
		"{m:1! {}}":                              "{1:{}}",
		"{m:1! {m:1! {m:1! {m:1! {m:1! num}}}}}": "{1:{1:{1:{1:{1:0}}}}}",
		"{m:1! {m:1 {m:1! num}},z:9! num}":       "{1:{},9:0}",
	} {
		s := schema(text)
		if v, ok := impl.DefaultOf(s); !sameValue(v, value(want)) || !ok {
			t.Errorf("DefaultOf(%s) = %v, %v; want %s", text, v, ok, want)
		}
		valueComesBack(t, value(want), s)
	}
	all := fullSchema()
	for k := range all.Types[1:] {
		all.Types[k+1].Must = true
	}
	if v, ok := impl.DefaultOf(all); len(v.Nodes) != impl.MaxTypes || !ok {
		t.Error("all Must be:", v, ok)
	}
	source := rand.New(rand.NewSource(13))
	for range 4000 {
		s := randomGoodSchema(source)
		v, ok := impl.DefaultOf(s)
		if !ok || !valueComesBack(t, v, s) {
			t.Fatalf("DefaultOf(%s) = %v, %v", wantText(s), v, ok)
		}
		// One node for each type that Must be, down from the whole in messages alone; no fewer would fit.
		must := map[int]int{0: 1}
		for k, part := range s.Types {
			if part.Must && must[part.Up] > 0 {
				must[k] = 1
			}
		}
		if len(v.Nodes) != len(must) {
			t.Fatalf("DefaultOf(%s) = %v", wantText(s), v)
		}
		for _, n := range v.Nodes {
			if n.Num != 0 || n.Text != "" {
				t.Fatalf("DefaultOf(%s) = %v", wantText(s), v)
			}
		}
	}
}

func TestNodesIn(t *testing.T) {
	s := schema("{n:1! num,l:2 [[text]]}")
	for text, want := range map[string]int{"{1:5}": 2, "{1:5,2:[]}": 3, "{1:5,2:[[],['a','b'],[]]}": 8} {
		if many, ok := impl.NodesIn(value(text), s); many != want || !ok {
			t.Errorf("NodesIn(%s) = %d, %v; want %d", text, many, ok, want)
		}
	}
	for _, text := range []string{"{}", "{2:[]}", "{1:5,2:['a']}", "{1:'5'}"} {
		if many, ok := impl.NodesIn(value(text), s); many != 0 || ok {
			t.Errorf("NodesIn(%s) = %d, %v", text, many, ok)
		}
	}
}
