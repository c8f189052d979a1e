package tests

import (
	"math"
	"math/rand"
	"slices"
	"strings"
	"testing"

	"loop.example/g00333/impl"
)

// seen holds ViewOf against what the document asks, at any arguments.
func seen(t *testing.T, b string, nos []int) (string, bool) {
	t.Helper()
	want, wantOk := wantView(b, nos)
	got, ok := impl.ViewOf(b, nos)
	if got != want || ok != wantOk {
		t.Fatalf("ViewOf(%x, %v) = %x, %v; want %x, %v", b, nos, got, ok, want, wantOk)
	}
	return got, ok
}

// putBack holds PutView against what the document asks, at any arguments.
func putBack(t *testing.T, b string, nos []int, view string) (string, bool) {
	t.Helper()
	want, wantOk := wantPut(b, nos, view)
	got, ok := impl.PutView(b, nos, view)
	if got != want || ok != wantOk {
		t.Fatalf("PutView(%x, %v, %x) = %x, %v; want %x, %v", b, nos, view, got, ok, want, wantOk)
	}
	return got, ok
}

// down holds DownTo and DropsOf against what the document asks, at any bytes and a good schema.
func down(t *testing.T, b string, s impl.Schema) (string, bool) {
	t.Helper()
	want, wantOk := wantDown(b, s)
	got, ok := impl.DownTo(b, s)
	if got != want || ok != wantOk {
		t.Fatalf("DownTo(%x, %s) = %x, %v; want %x, %v", b, wantText(s), got, ok, want, wantOk)
	}
	wantNos, wantValid := wantDrops(b, s)
	if nos, valid := impl.DropsOf(b, s); !slices.Equal(nos, wantNos) || valid != wantValid {
		t.Fatalf("DropsOf(%x, %s) = %v, %v; want %v, %v", b, wantText(s), nos, valid, wantNos, wantValid)
	}
	return got, ok
}

// noView: neither is anything seen of such bytes through such Nos, nor put there, nor put elsewhere.
func noView(t *testing.T, name, b string, nos []int) {
	t.Helper()
	if got, ok := impl.ViewOf(b, nos); got != "" || ok {
		t.Errorf("%s: ViewOf(%x, %v) = %x, %v", name, b, nos, got, ok)
	}
	for _, view := range []string{"", "\x08\x02", b} {
		if got, ok := impl.PutView(b, nos, view); got != "" || ok {
			t.Errorf("%s: PutView(%x, %v, %x) = %x, %v", name, b, nos, view, got, ok)
		}
	}
	for _, into := range []string{"", "\x08\x02"} {
		if got, ok := impl.PutView(into, nos, b); got != "" || ok {
			t.Errorf("%s: PutView(%x, %v, %x) = %x, %v", name, into, nos, b, got, ok)
		}
	}
}

func TestViewsWrittenOut(t *testing.T) {
	for _, x := range []struct {
		bytes string
		nos   []int
		want  string
	}{
		{"", nil, ""},
		{"", []int{}, ""},
		{"", []int{1, 30}, ""},
		{"\x08\x02\x12\x01a", nil, ""},
		{"\x08\x02\x12\x01a", []int{1}, "\x08\x02"},
		{"\x08\x02\x12\x01a", []int{2}, "\x12\x01a"},
		{"\x08\x02\x12\x01a", []int{1, 2}, "\x08\x02\x12\x01a"},
		{"\x08\x02\x12\x01a", []int{3}, ""},
		{"\x08\x02\x12\x01a\x1a\x00", []int{1, 3}, "\x08\x02\x1a\x00"},
		{"\x08\x02\xf2\x01\x01z", []int{30}, "\xf2\x01\x01z"},
		{"\x08\x02\xf0\x01\x03", []int{1, 29}, "\x08\x02"},
		{"\x12\x04\x08\x02\x10\x04", []int{1}, ""}, // a field within another one's bytes is not the whole's
		{"\x12\x04\x08\x02\x10\x04", []int{2}, "\x12\x04\x08\x02\x10\x04"},
	} {
		if got, ok := impl.ViewOf(x.bytes, x.nos); got != x.want || !ok {
			t.Errorf("ViewOf(%x, %v) = %x, %v; want %x", x.bytes, x.nos, got, ok, x.want)
		}
		seen(t, x.bytes, x.nos)
	}
}

func TestPutsWrittenOut(t *testing.T) {
	for _, x := range []struct {
		bytes string
		nos   []int
		view  string
		want  string
	}{
		{"", nil, "", ""},
		{"", []int{1}, "", ""},
		{"", []int{1}, "\x08\x02", "\x08\x02"},
		{"\x08\x02\x12\x01a", nil, "", "\x08\x02\x12\x01a"},
		{"\x08\x02\x12\x01a", []int{1}, "\x08\x04", "\x08\x04\x12\x01a"},
		{"\x08\x02\x12\x01a", []int{1}, "", "\x12\x01a"},
		{"\x08\x02\x12\x01a", []int{2}, "\x10\x05", "\x08\x02\x10\x05"}, // a kind may turn into the other one
		{"\x08\x02\x12\x01a", []int{1, 2}, "", ""},
		{"\x08\x02\x12\x01a", []int{1, 2, 3}, "\x1a\x01b", "\x1a\x01b"},
		{"\x08\x02\x12\x01a", []int{30}, "\xf0\x01\x00", "\x08\x02\x12\x01a\xf0\x01\x00"},
		{"\x08\x02\x18\x04", []int{2}, "\x12\x00", "\x08\x02\x12\x00\x18\x04"},
		{"\x10\x02\x18\x04", []int{1}, "\x0a\x01x", "\x0a\x01x\x10\x02\x18\x04"},
		{"\x10\x02\x20\x04", []int{1, 2, 3, 5}, "\x08\x00\x1a\x01y\x28\x01", "\x08\x00\x1a\x01y\x20\x04\x28\x01"},
	} {
		if got, ok := impl.PutView(x.bytes, x.nos, x.view); got != x.want || !ok {
			t.Errorf("PutView(%x, %v, %x) = %x, %v; want %x", x.bytes, x.nos, x.view, got, ok, x.want)
		}
		putBack(t, x.bytes, x.nos, x.view)
	}
}

func TestDownWrittenOut(t *testing.T) {
	for _, x := range []struct {
		schema, bytes, want string
		drops               []int
	}{
		{"{}", "", "", nil},
		{"{}", "\x08\x02\x12\x01a\xf0\x01\x00", "", []int{1, 2, 30}},
		{"{n:1! num}", "\x08\x02", "\x08\x02", nil},
		{"{n:1! num}", "\x08\x02\x12\x01a", "\x08\x02", []int{2}},
		{"{n:2 num}", "\x08\x02\x10\x04\x18\x06", "\x10\x04", []int{1, 3}},
		{"{n:2 num}", "\x08\x02\x18\x06", "", []int{1, 3}},
		{"{m:1 {}}", "\x0a\x02\x08\x02", "\x0a\x00", nil},
		{"{m:1 {n:1 num}}", "\x0a\x05\x08\x02\x12\x01a", "\x0a\x02\x08\x02", nil},
		{"{l:1 [{n:1 num}]}", "\x0a\x09\x05\x08\x02\x12\x01a\x02\x10\x02", "\x0a\x04\x02\x08\x02\x00", nil},
		{"{l:1 [[{}]]}", "\x0a\x05\x04\x03\x0a\x01b", "\x0a\x02\x01\x00", nil},
		{"{m:1 {m:1 {n:2 num}}}", "\x0a\x08\x0a\x06\x08\x00\x10\x02\x18\x04\x12\x00", "\x0a\x04\x0a\x02\x10\x02", []int{2}},
	} {
		s := schema(x.schema)
		if got, ok := impl.DownTo(x.bytes, s); got != x.want || !ok {
			t.Errorf("DownTo(%x, %s) = %x, %v; want %x", x.bytes, x.schema, got, ok, x.want)
		}
		if nos, ok := impl.DropsOf(x.bytes, s); !slices.Equal(nos, x.drops) || !ok {
			t.Errorf("DropsOf(%x, %s) = %v, %v; want %v", x.bytes, x.schema, nos, ok, x.drops)
		}
		down(t, x.bytes, s)
	}
}

func TestComposeNosWrittenOut(t *testing.T) {
	all := allNos()
	for _, x := range []struct{ a, b, want []int }{
		{nil, nil, nil},
		{nil, []int{1}, nil},
		{[]int{1}, []int{}, nil},
		{[]int{1}, []int{1}, []int{1}},
		{[]int{1}, []int{30}, nil},
		{[]int{1, 30}, []int{30}, []int{30}},
		{[]int{1, 2, 5}, []int{2, 3, 5}, []int{2, 5}},
		{[]int{1, 3, 5}, []int{2, 4, 6}, nil},
		{[]int{4, 5, 6}, []int{1, 2, 3, 4}, []int{4}},
		{all, all, all},
		{all, []int{7, 9}, []int{7, 9}},
	} {
		for _, pair := range [][2][]int{{x.a, x.b}, {x.b, x.a}} {
			if got, ok := impl.ComposeNos(pair[0], pair[1]); !slices.Equal(got, x.want) || !ok {
				t.Errorf("ComposeNos(%v, %v) = %v, %v; want %v", pair[0], pair[1], got, ok, x.want)
			}
		}
	}
}

// reads holds promise 5 at bytes that are valid for the first of schemas, each taken in by the next one: the
// last one reads the same of them, by whichever of the others they come.
func reads(t *testing.T, b string, chain []impl.Schema) {
	t.Helper()
	last := chain[len(chain)-1]
	straight, ok := down(t, b, last)
	if !ok {
		t.Fatalf("DownTo(%x, %s) tells nothing", b, wantText(last))
	}
	for i, s := range chain {
		if is, ok := impl.IsValid(b, s); !is || !ok {
			t.Fatalf("IsValid(%x, %s) = %v, %v, but %s is taken in by it", b, wantText(s), is, ok, wantText(chain[0]))
		}
		for _, wider := range chain[i:] {
			is, okIs := impl.IsSubtype(s, wider)
			can, okCan := impl.CanRead(s, wider)
			if !is || !okIs || !can || !okCan {
				t.Fatalf("%s, %s: IsSubtype %v, %v; CanRead %v, %v", wantText(s), wantText(wider), is, okIs, can, okCan)
			}
		}
		between, ok := down(t, b, s)
		byTwo, okTwo := down(t, between, last)
		if !ok || !okTwo || byTwo != straight {
			t.Fatalf("%x by %s to %s = %x, %v; straight %x", b, wantText(s), wantText(last), byTwo, okTwo, straight)
		}
		if again, ok := down(t, between, s); again != between || !ok {
			t.Fatalf("DownTo(%x, %s) once more = %x, %v", between, wantText(s), again, ok)
		}
		if nos, ok := impl.DropsOf(between, s); len(nos) != 0 || !ok {
			t.Fatalf("DropsOf(%x, %s) = %v, %v, which DownTo told", between, wantText(s), nos, ok)
		}
	}
}

func TestOneReadsWhatAnotherWrites(t *testing.T) {
	for _, x := range []struct {
		value string
		chain []string
	}{
		{"{}", []string{"{n:1 num}", "{}"}},
		{"{1:5}", []string{"{n:1! num}", "{n:1 num}", "{other:1 num}", "{}"}},
		{"{1:5,2:'t',3:2}", []string{"{n:1! num,t:2! text,e:3! enum(2)}", "{n:1! num,e:3 enum(3)}", "{e:3 enum(20)}"}},
		{"{1:{1:7,2:'x'},2:[{1:1,2:'y'},{}]}", []string{"{m:1! {n:1! num,t:2 text},l:2 [{n:1 num,t:2 text}]}", "{m:1 {n:1! num},l:2 [{t:2 text}]}", "{m:1 {},l:2 [{}]}"}},
		{"{1:[[{1:[1,2],2:0}]]}", []string{"{l:1! [[{l:1! [enum(2)],e:2! enum(0)}]]}", "{l:1! [[{l:1! [enum(9)]}]]}", "{l:1 [[{l:1 [enum(20)]}]]}", "{l:1 [[{}]]}", "{}"}},
		{"{1:1,30:{1:1,30:{1:1,30:{30:'d'}}}}", []string{
			"{a:1! num,b:30! {a:1! num,b:30! {a:1! num,b:30! {a:1 num,b:30 text}}}}", "{b:30! {a:1 num,b:30! {b:30! {b:30 text}}}}", "{b:30 {b:30 {b:30 {b:30 text}}}}", "{b:30 {b:30 {}}}"}},
	} {
		var chain []impl.Schema
		for _, text := range x.chain {
			chain = append(chain, schema(text))
		}
		b, ok := impl.EncodeValue(value(x.value), chain[0])
		if !ok {
			t.Fatalf("no test: EncodeValue(%s) by %s", x.value, x.chain[0])
		}
		reads(t, b, chain)
	}
}

func TestRandomOnesReadWhatOthersWrite(t *testing.T) {
	source := rand.New(rand.NewSource(12))
	shorter, twice, joins, unknown := 0, 0, 0, 0
	for range 3000 {
		a := randomGoodSchema(source)
		between := widened(source, a)
		wide := widened(source, between)
		v := randomValue(source, a)
		b, ok := impl.EncodeValue(v, a)
		if !ok {
			continue
		}
		chain := []impl.Schema{a, between, wide, schema("{}")}
		reads(t, b, chain[:3])
		reads(t, b, chain)
		one, _ := impl.DownTo(b, between)
		two, _ := impl.DownTo(b, wide)
		if len(one) < len(b) {
			shorter++
		}
		if len(two) < len(one) {
			twice++
		}
		if joined, ok := impl.JoinOf(between, nearTo(source, between)); ok {
			reads(t, b, []impl.Schema{a, between, joined})
			joins++
		}
		// Bytes with what the first one does not know either are read in the same way.
		if b, put := bytesWithUnknown(source, v, a); put > 0 && len(b) <= impl.MaxWire {
			reads(t, b, chain)
			unknown++
		}
	}
	if shorter < 500 || twice < 500 || joins < 500 || unknown < 500 {
		t.Error("too few of a kind:", shorter, twice, joins, unknown)
	}
}

// canRead holds CanRead of two good schemas; it tells what is told.
func canRead(t *testing.T, writer, reader impl.Schema) bool {
	t.Helper()
	is, okIs := impl.IsSubtype(writer, reader)
	can, ok := impl.CanRead(writer, reader)
	if can != is || ok != okIs || !ok || can != wantSubtype(writer, reader) {
		t.Fatalf("CanRead(%s, %s) = %v, %v; IsSubtype %v, %v", wantText(writer), wantText(reader), can, ok, is, okIs)
	}
	return can
}

func TestCanRead(t *testing.T) {
	for _, x := range []struct {
		writer, reader string
		want           bool
	}{
		{"{}", "{}", true},
		{"{n:1 num}", "{}", true},
		{"{}", "{n:1 num}", false},
		{"{n:1! num}", "{n:1 num}", true},
		{"{n:1 num}", "{n:1! num}", false},
		{"{n:1 num}", "{other:1 num}", true},
		{"{n:1 num}", "{n:2 num}", false},
		{"{n:1 num}", "{n:1 text}", false},
		{"{e:1 enum(2)}", "{e:1 enum(3)}", true},
		{"{e:1 enum(3)}", "{e:1 enum(2)}", false},
		{"{e:1 enum(3)}", "{e:1 num}", false},
		{"{l:1 [{n:1! num,m:2 text}]}", "{l:1 [{n:1 num}]}", true},
		{"{l:1 [{n:1 num}]}", "{l:1 [{n:1! num}]}", false},
	} {
		if canRead(t, schema(x.writer), schema(x.reader)) != x.want {
			t.Errorf("CanRead(%s, %s) is not %v", x.writer, x.reader, x.want)
		}
	}
	for _, a := range goodSchemas() {
		for _, b := range goodSchemas() {
			canRead(t, a, b)
		}
		for i, wrong := range wrongSchemas() {
			for _, pair := range [][2]impl.Schema{{a, wrong}, {wrong, a}, {wrong, wrong}} {
				if can, ok := impl.CanRead(pair[0], pair[1]); can || ok {
					t.Errorf("wrong schema %d: CanRead %v, %v", i, can, ok)
				}
			}
		}
	}
	source := rand.New(rand.NewSource(13))
	can, not := 0, 0
	for range 6000 {
		a := randomGoodSchema(source)
		for _, b := range []impl.Schema{nearTo(source, a), widened(source, a), randomGoodSchema(source)} {
			if !wantGood(b) {
				continue
			}
			if canRead(t, a, b) {
				can++
			} else {
				not++
			}
			canRead(t, b, a)
		}
	}
	if can < 3000 || not < 3000 {
		t.Error("too few of a kind:", can, not)
	}
}

func TestUnknownFieldsWithinGoToo(t *testing.T) {
	s := schema("{m:2 {n:2! num,m:4 {n:2 num}},l:4 [{n:2 num}],k:6 [[{n:2 num}]]}")
	n := wireField(number(2, 7))
	known := func(m, inner, item, deep string) string {
		return wireField(data(2, m+wireField(data(4, inner)))) + wireField(data(4, wireText(item)+wireText(""))) + wireField(data(6, wireText(wireText(deep))))
	}
	want := known(n, n, n, n)
	for _, content := range []impl.Field{number(0, 0), number(0, -5), data(0, ""), data(0, "\xff\xff"), data(0, n)} {
		for _, no := range []int{1, 3, 5, 30} {
			content.No = no
			unknown := wireField(content)
			around := n + unknown
			if no == 1 {
				around = unknown + n
			}
			beside := around
			if no > 3 {
				beside = n // behind the part 4 of that message, which known puts last
			}
			for _, b := range []string{known(beside, n, n, n), known(n, around, n, n), known(n, n, around, n), known(n, n, n, around), known(beside, around, around, around)} {
				if got, ok := down(t, b, s); got != want || !ok {
					t.Errorf("DownTo(%x) = %x, %v; want %x", b, got, ok, want)
				}
				if nos, ok := impl.DropsOf(b, s); len(nos) != 0 || !ok {
					t.Errorf("DropsOf(%x) = %v, %v: none of these is the whole's", b, nos, ok)
				}
			}
		}
	}
	both := wireField(number(1, 1)) + known(n, n, n, n+wireField(number(9, 1))) + wireField(data(7, "x")) + wireField(number(30, 0))
	if nos, ok := impl.DropsOf(both, s); !slices.Equal(nos, []int{1, 7, 30}) || !ok {
		t.Errorf("DropsOf(%x) = %v, %v", both, nos, ok)
	}
}

func TestDownToWithMoreThanMaxNodes(t *testing.T) {
	s, wider := schema("{n:1 num,l:2 [{}]}"), schema("{n:1 num}")
	n := wireField(number(1, 3))
	for items := 30; items <= 60; items++ {
		b := n + wireField(data(2, strings.Repeat("\x00", items))) + wireField(number(5, 1))
		known := n + wireField(data(2, strings.Repeat("\x00", items)))
		within := items+3 <= impl.MaxNodes
		if !within {
			known = ""
		}
		if got, ok := down(t, b, s); got != known || ok != within {
			t.Errorf("DownTo of %d items = %x, %v", items, got, ok)
		}
		// The bytes are valid all the same, and what is unknown is no node.
		if nos, ok := impl.DropsOf(b, s); !slices.Equal(nos, []int{5}) || !ok {
			t.Errorf("DropsOf of %d items = %v, %v", items, nos, ok)
		}
		if got, ok := down(t, b, wider); got != n || !ok {
			t.Errorf("DownTo of %d items that are unknown = %x, %v", items, got, ok)
		}
		if nos, ok := impl.DropsOf(b, wider); !slices.Equal(nos, []int{2, 5}) || !ok {
			t.Errorf("DropsOf of %d items that are unknown = %v, %v", items, nos, ok)
		}
	}
	full := "\x0a\x8d\x03" + strings.Repeat("\x02", 397)
	if got, ok := down(t, full, schema("{l:1 [num]}")); got != "" || ok || len(full) != impl.MaxWire {
		t.Errorf("DownTo of 399 nodes = %x, %v", got, ok)
	}
}

func TestDownToOfBytesThatAreNotValid(t *testing.T) {
	s := schema("{n:2! num,t:4 text,m:6 {e:2! enum(2)},l:8 [{e:2! enum(2)}]}")
	n := wireField(number(2, 5))
	for name, b := range map[string]string{
		"nothing":                          "",
		"what Must be is missing":          wireField(number(1, 5)) + wireField(number(3, 5)),
		"Nos that fall":                    n + wireField(number(1, 5)),
		"unknown Nos that fall":            n + wireField(number(30, 5)) + wireField(number(29, 5)),
		"a No twice":                       n + n,
		"an unknown No twice":              n + wireField(number(9, 5)) + wireField(data(9, "")),
		"another kind":                     wireField(data(2, "\x0a")),
		"a text too long":                  n + wireField(data(4, strings.Repeat("t", 31))),
		"an enum too great in a message":   n + wireField(data(6, wireField(number(2, 3)))),
		"Must is missing in a message":     n + wireField(data(6, wireField(number(1, 1)))),
		"Must is missing in a list":        n + wireField(data(8, "\x02\x10\x02\x00")),
		"a message that is no fields":      n + wireField(data(6, "\xff")),
		"an unknown one cut off":           n + "\x4a\x02a",
		"an unknown one of kind 1":         n + "\x49\x02",
		"an unknown one of No 31":          n + wireNumber(8*31) + "\x02",
		"an unknown number too great":      n + "\x48" + wireNumber(greatestVarint),
		"an unknown one with a nought":     n + "\x48\x82\x00",
		"unknown ones twice in a message":  n + wireField(data(6, wireOf(number(2, 1), number(5, 1), number(5, 1)))),
		"unknown Nos that fall in a list":  n + wireField(data(8, wireText(wireOf(number(2, 1), number(5, 1), number(4, 1))))),
		"valid ones but for a byte behind": n + "\x00",
	} {
		if got, ok := impl.DownTo(b, s); got != "" || ok {
			t.Errorf("%s: DownTo(%x) = %x, %v", name, b, got, ok)
		}
		if nos, ok := impl.DropsOf(b, s); len(nos) != 0 || ok {
			t.Errorf("%s: DropsOf(%x) = %v, %v", name, b, nos, ok)
		}
		down(t, b, s)
	}
	for i, wrong := range wrongSchemas() {
		for _, b := range []string{"", "\x08\x02", "\x0a\x00"} {
			if got, ok := impl.DownTo(b, wrong); got != "" || ok {
				t.Errorf("wrong schema %d: DownTo(%x) = %x, %v", i, b, got, ok)
			}
			if nos, ok := impl.DropsOf(b, wrong); len(nos) != 0 || ok {
				t.Errorf("wrong schema %d: DropsOf(%x) = %v, %v", i, b, nos, ok)
			}
		}
	}
}

func TestRandomDownTo(t *testing.T) {
	source := rand.New(rand.NewSource(14))
	valid, refused, drops := 0, 0, 0
	for range 20000 {
		s := randomGoodSchema(source)
		b, _ := bytesWithUnknown(source, randomValue(source, s), s)
		reader := s
		if source.Intn(2) == 0 {
			reader = nearTo(source, s)
		}
		if !wantGood(reader) || len(b) > impl.MaxWire {
			continue
		}
		if _, ok := down(t, b, reader); ok {
			valid++
		} else {
			refused++
		}
		if nos, _ := impl.DropsOf(b, reader); len(nos) > 0 {
			drops++
		}
	}
	if valid < 5000 || refused < 300 || drops < 3000 {
		t.Error("too few of a kind:", valid, refused, drops)
	}
}

// putLaws holds what promise 5 says of views, at fields, Nos, and two views of these.
func putLaws(t *testing.T, b string, nos []int, view, later string) (bool, bool) {
	t.Helper()
	has, ok := seen(t, b, nos)
	if !ok {
		t.Fatalf("ViewOf(%x, %v) tells nothing", b, nos)
	}
	if same, ok := putBack(t, b, nos, has); same != b || !ok {
		t.Fatalf("PutView(%x, %v) of what is seen = %x, %v", b, nos, same, ok)
	}
	first, ok := putBack(t, b, nos, view)
	straight, okLater := putBack(t, b, nos, later)
	if !ok {
		return false, okLater
	}
	if back, ok := seen(t, first, nos); back != view || !ok {
		t.Fatalf("ViewOf of PutView(%x, %v, %x) = %x, %v", b, nos, view, back, ok)
	}
	if last, ok := putBack(t, first, nos, later); last != straight || ok != okLater {
		t.Fatalf("PutView(%x, %v) of %x, then of %x = %x, %v; straight %x, %v", b, nos, view, later, last, ok, straight, okLater)
	}
	return true, okLater
}

func TestWhatIsPutIsSeen(t *testing.T) {
	source := rand.New(rand.NewSource(15))
	done, full, changed := 0, 0, 0
	for range 20000 {
		nos := randomNos(source, 1+source.Intn(6))
		often, oftenPut := 1+source.Intn(8), 1+source.Intn(3)
		if source.Intn(4) == 0 {
			often, oftenPut = 1, 1 // near to MaxWire bytes
		}
		b := randomRising(source, allNos(), often)
		view, later := randomRising(source, nos, oftenPut), randomRising(source, nos, oftenPut)
		if len(b) > impl.MaxWire || len(view) > impl.MaxWire || len(later) > impl.MaxWire {
			continue
		}
		first, second := putLaws(t, b, nos, view, later)
		if first && second {
			done++
		} else {
			full++
		}
		if first && view != later && view != "" {
			changed++
		}
	}
	if done < 5000 || full < 200 || changed < 3000 {
		t.Error("too few of a kind:", done, full, changed)
	}
}

func TestViewsOfViews(t *testing.T) {
	source := rand.New(rand.NewSource(16))
	some, fewer := 0, 0
	for range 30000 {
		b := randomRising(source, allNos(), 1+source.Intn(8))
		if len(b) > impl.MaxWire {
			continue
		}
		first, second := randomNos(source, 1+source.Intn(3)), randomNos(source, 1+source.Intn(3))
		both, ok := impl.ComposeNos(first, second)
		if !ok || !wantNos(both) {
			t.Fatalf("ComposeNos(%v, %v) = %v, %v", first, second, both, ok)
		}
		outer, _ := seen(t, b, first)
		inner, ok := seen(t, outer, second)
		if straight, okBoth := seen(t, b, both); inner != straight || !ok || !okBoth {
			t.Fatalf("ViewOf(ViewOf(%x, %v), %v) = %x; by ComposeNos %x", b, first, second, inner, straight)
		}
		if inner != "" {
			some++
		}
		if inner != "" && inner != outer {
			fewer++
		}
	}
	if some < 5000 || fewer < 3000 {
		t.Error("too few of a kind:", some, fewer)
	}
}

// Each of four Nos in every way: in the fields not at all, as a number, as bytes; not one of the Nos; one of
// them, and put not at all, as a number, as bytes.
func TestFieldsOfEitherKindAroundWhatIsPut(t *testing.T) {
	places := []int{1, 2, 16, 30}
	kinds := func(no, which int, text string) string {
		return []string{"", wireField(number(no, -no)), wireField(data(no, text))}[which]
	}
	for way := range 12 * 12 * 12 * 12 {
		b, view, want := "", "", ""
		var nos []int
		for _, no := range places {
			old, put := way%3, way/3%4
			way /= 12
			b += kinds(no, old, "old")
			if put == 3 {
				want += kinds(no, old, "old")
				continue
			}
			nos = append(nos, no)
			view += kinds(no, put, "put")
			want += kinds(no, put, "put")
		}
		if got, ok := impl.PutView(b, nos, view); got != want || !ok {
			t.Fatalf("PutView(%x, %v, %x) = %x, %v; want %x", b, nos, view, got, ok, want)
		}
		putLaws(t, b, nos, view, "")
	}
}

func TestNosAtTheirEdges(t *testing.T) {
	b := wireOf(number(1, 5), data(2, "t"), number(30, 6))
	for _, nos := range [][]int{nil, {}, {1}, {30}, {1, 30}, {1, 2, 30}, {29, 30}, {1, 2}, {14}, allNos()} {
		if !wantNos(nos) {
			t.Fatal("no test:", nos)
		}
		view, _ := seen(t, b, nos)
		if got, ok := putBack(t, b, nos, view); got != b || !ok {
			t.Errorf("PutView of what is seen through %v = %x, %v", nos, got, ok)
		}
		if got, ok := impl.ComposeNos(nos, nos); !slices.Equal(got, nos) || !ok {
			t.Errorf("ComposeNos(%v, itself) = %v, %v", nos, got, ok)
		}
	}
	for name, nos := range map[string][]int{
		"0":                       {0},
		"31":                      {31},
		"0 ahead":                 {0, 1},
		"31 behind":               {30, 31},
		"below 0":                 {-1, 1},
		"the least":               {math.MinInt},
		"the least ahead":         {math.MinInt, 1},
		"the greatest":            {math.MaxInt},
		"the greatest behind":     {1, math.MaxInt},
		"they fall":               {2, 1},
		"they fall in the end":    {1, 2, 30, 29},
		"they fall in between":    {1, 3, 2, 30},
		"one twice":               {1, 1},
		"the last one twice":      {1, 2, 30, 30},
		"one twice in between":    {1, 2, 2, 3},
		"one twice, not in a row": {1, 2, 1},
		"0 to 30":                 append([]int{0}, allNos()...),
		"1 to 31":                 append(allNos(), 31),
		"all twice":               append(allNos(), allNos()...),
	} {
		noView(t, name, b, nos)
		noView(t, name, "", nos)
		for _, good := range [][]int{nil, {1}, {1, 30}, allNos()} {
			for _, pair := range [][2][]int{{nos, good}, {good, nos}, {nos, nos}} {
				if got, ok := impl.ComposeNos(pair[0], pair[1]); len(got) != 0 || ok {
					t.Errorf("%s: ComposeNos(%v, %v) = %v, %v", name, pair[0], pair[1], got, ok)
				}
			}
		}
	}
}

func TestNosOfAnyTwo(t *testing.T) {
	b := wireOf(number(1, 5), number(2, 6), data(29, "x"), data(30, "y"))
	for one := -2; one <= 33; one++ {
		seen(t, b, []int{one})
		for other := -2; other <= 33; other++ {
			nos := []int{one, other}
			seen(t, b, nos)
			putBack(t, b, nos, wireField(number(1, 7)))
			good := wantNos(nos)
			if got, ok := impl.ComposeNos(nos, allNos()); ok != good || good != slices.Equal(got, nos) {
				t.Errorf("ComposeNos(%v, all) = %v, %v", nos, got, ok)
			}
		}
	}
}

func TestBytesThatAreNoFields(t *testing.T) {
	one, two := wireField(number(1, 5)), wireField(data(2, "t"))
	for name, b := range map[string]string{
		"Nos that fall":                  two + one,
		"Nos that fall in the end":       one + wireField(number(30, 1)) + wireField(number(29, 1)),
		"a No twice":                     one + one,
		"a No twice, of either kind":     one + wireField(data(1, "")),
		"a No twice in the end":          one + two + two,
		"a No twice, with one between":   one + two + one,
		"No 0":                           "\x00\x00",
		"No 0 ahead":                     "\x00\x00" + one,
		"No 31":                          wireNumber(8*31) + "\x00",
		"No 31 behind":                   one + wireNumber(8*31) + "\x00",
		"kind 1":                         "\x09\x00",
		"kind 3":                         "\x0b\x00",
		"kind 5":                         one + "\x15\x00",
		"kind 7":                         "\x0f",
		"a tag alone":                    "\x08",
		"half a tag":                     one + "\xf0",
		"half a number":                  "\x08\x80",
		"a length alone":                 "\x0a\x01",
		"a text cut off":                 one + "\x12\x02t",
		"a needless nought":              "\x08\x80\x00",
		"a needless nought in a tag":     "\x88\x00\x02",
		"a needless nought in a length":  one + "\x12\x81\x00t",
		"a number too great":             "\x08" + wireNumber(2*impl.MaxNumber+2),
		"a number too small":             "\x08" + wireNumber(greatestVarint),
		"a byte behind":                  one + "\x00",
		"31 fields":                      wireOf(repeated(number(1, 1), 31)...),
		"40 fields":                      wireOf(repeated(number(1, 1), 40)...),
		"all Nos, and the last one more": allFields() + wireField(number(30, 30)),
	} {
		for _, nos := range [][]int{nil, {1}, {2}, {1, 2}, {30}, allNos()} {
			noView(t, name, b, nos)
			seen(t, b, nos)
			putBack(t, b, nos, one)
			putBack(t, one, nos, b)
		}
		down(t, b, schema("{}"))
	}
}

func TestNoFieldsAtAll(t *testing.T) {
	for _, nos := range [][]int{nil, {}, {1}, {30}, allNos()} {
		if got, ok := impl.ViewOf("", nos); got != "" || !ok {
			t.Errorf("ViewOf of nothing through %v = %x, %v", nos, got, ok)
		}
		if got, ok := impl.PutView("", nos, ""); got != "" || !ok {
			t.Errorf("PutView of nothing through %v = %x, %v", nos, got, ok)
		}
	}
	all := allFields()
	if got, ok := impl.PutView("", allNos(), all); got != all || !ok {
		t.Errorf("PutView of all into nothing = %x, %v", got, ok)
	}
	if got, ok := impl.PutView(all, allNos(), ""); got != "" || !ok {
		t.Errorf("PutView of nothing into all = %x, %v", got, ok)
	}
	if got, ok := impl.PutView(all, nil, ""); got != all || !ok {
		t.Errorf("PutView through no Nos = %x, %v", got, ok)
	}
}

func TestViewsWithOtherNos(t *testing.T) {
	b := wireOf(number(1, 5), data(2, "t"), number(30, 6))
	for _, x := range []struct {
		nos  []int
		view string
	}{
		{nil, wireOf(number(1, 5))},
		{[]int{}, b},
		{[]int{1}, wireOf(number(2, 5))},
		{[]int{1}, wireOf(number(1, 5), number(2, 5))},
		{[]int{2}, wireOf(number(1, 5), number(2, 5))},
		{[]int{1, 3}, wireOf(number(1, 5), data(2, "t"), number(3, 5))},
		{[]int{1, 2}, b},
		{[]int{29}, wireOf(number(30, 5))},
		{[]int{30}, wireOf(number(29, 5))},
	} {
		if got, ok := impl.PutView(b, x.nos, x.view); got != "" || ok {
			t.Errorf("PutView(%x, %v, %x) = %x, %v", b, x.nos, x.view, got, ok)
		}
		putBack(t, b, x.nos, x.view)
	}
}

// bytesOf is one field of that No with so many bytes in all, of which three or more are ahead of its Data.
func bytesOf(t *testing.T, no, bytes int) string {
	t.Helper()
	for most := bytes; most >= 0; most-- {
		if b := wireField(data(no, strings.Repeat("x", most))); len(b) == bytes {
			return b
		}
	}
	t.Fatal("no test: no field has", bytes, "bytes")
	return ""
}

func TestFieldsOfMaxWireBytes(t *testing.T) {
	one := wireField(number(1, 5))
	for bytes := 390; bytes <= 410; bytes++ {
		within := bytes <= impl.MaxWire
		b := one + bytesOf(t, 2, bytes-len(one))
		for _, nos := range [][]int{nil, {1}, {2}, {1, 2}, {3}} {
			view, ok := seen(t, b, nos)
			if ok != within {
				t.Errorf("ViewOf of %d bytes through %v = %x, %v", bytes, nos, view, ok)
			}
			if got, ok := putBack(t, b, nos, view); ok != within || ok && got != b || !ok && got != "" {
				t.Errorf("PutView into %d bytes through %v: %d, %v", bytes, nos, len(got), ok)
			}
		}
		if got, ok := putBack(t, "", []int{1, 2}, b); ok != within || ok && got != b {
			t.Errorf("PutView of %d bytes into nothing: %d, %v", bytes, len(got), ok)
		}
		if got, ok := down(t, b, schema("{n:1 num}")); ok != within || ok && got != one {
			t.Errorf("DownTo of %d bytes = %x, %v", bytes, got, ok)
		}
		if nos, ok := impl.DropsOf(b, schema("{n:1 num}")); ok != within || ok != slices.Equal(nos, []int{2}) {
			t.Errorf("DropsOf of %d bytes = %v, %v", bytes, nos, ok)
		}
	}
	if got, ok := impl.PutView(one+bytesOf(t, 2, 398), []int{2}, ""); got != one || !ok {
		t.Errorf("PutView of nothing into MaxWire bytes = %x, %v", got, ok)
	}
	if got, ok := impl.PutView(one+bytesOf(t, 2, 399), []int{2}, ""); got != "" || ok {
		t.Errorf("PutView into MaxWire bytes and one = %x, %v: few bytes would be left, but it is too long", got, ok)
	}
}

func TestPutViewUpToMaxWireBytes(t *testing.T) {
	for stays := 150; stays <= 250; stays += 50 {
		for bytes := 395; bytes <= 405; bytes++ {
			for _, x := range []struct{ stay, put int }{{1, 2}, {2, 1}, {1, 30}, {30, 1}} {
				b, view := bytesOf(t, x.stay, stays), bytesOf(t, x.put, bytes-stays)
				got, ok := putBack(t, b, []int{x.put}, view)
				if ok != (bytes <= impl.MaxWire) || ok && len(got) != bytes || !ok && got != "" {
					t.Errorf("PutView of %d bytes in all: %d, %v", bytes, len(got), ok)
				}
				// The same in the place of another one, which counts no more.
				old := wireField(number(x.put, 5))
				if x.put > x.stay {
					old = b + old
				} else {
					old += b
				}
				if again, okAgain := putBack(t, old, []int{x.put}, view); again != got || okAgain != ok {
					t.Errorf("PutView of %d bytes in the place of others: %d, %v", bytes, len(again), okAgain)
				}
			}
		}
	}
	// Thirty fields, of which each is put: as many as there can be.
	b, view := "", ""
	for _, no := range allNos() {
		b += wireField(number(no, impl.MaxNumber))
		view += wireField(data(no, strings.Repeat("x", 10)))
	}
	if got, ok := putBack(t, b, allNos(), view); got != view || !ok {
		t.Errorf("PutView of thirty fields: %x, %v", got, ok)
	}
}

func TestViewsOfPiecesOfBytes(t *testing.T) {
	b := wireOf(number(1, 300), data(2, "ab"), data(15, ""), number(16, -1), data(30, "\x08\x02"))
	nos := []int{2, 16, 30}
	good := 0
	check := func(b string) {
		if _, ok := seen(t, b, nos); ok {
			good++
		}
		putBack(t, b, nos, wireField(number(16, 9)))
		putBack(t, wireField(number(1, 9)), allNos(), b)
		down(t, b, schema("{n:1 num,m:30 {n:1 num}}"))
	}
	for at := range len(b) + 1 {
		check(b[:at])
		check(b[at:])
		for mark := range 256 {
			one := string([]byte{byte(mark)})
			check(b[:at] + one + b[at:])
			if at < len(b) {
				check(b[:at] + one + b[at+1:])
			}
		}
	}
	if good < 300 {
		t.Error("too few are fields:", good)
	}
}

// What is seen through a schema's Nos, and put back as DownTo tells it, is what DownTo tells, with what was
// dropped of the whole still there: an elder one changes what it knows of a newer value, and nothing else.
func TestWhatAnElderOnePutsBack(t *testing.T) {
	newer, elder := schema("{n:1! num,t:2 text,m:3 {a:1 num,b:2 num}}"), schema("{n:1! num,m:3 {a:1 num}}")
	b := wantBytes(value("{1:5,2:'t',3:{1:6,2:7}}"), newer)
	told, ok := impl.DownTo(b, elder)
	if told != wantBytes(value("{1:5,3:{1:6}}"), elder) || !ok {
		t.Fatalf("DownTo = %x, %v", told, ok)
	}
	changed := wantBytes(value("{1:8,3:{1:6}}"), elder)
	back, ok := impl.PutView(b, []int{1, 3}, changed)
	if back != wantBytes(value("{1:8,2:'t',3:{1:6}}"), newer) || !ok {
		t.Errorf("PutView = %x, %v", back, ok)
	}
	if again, ok := impl.DownTo(back, elder); again != changed || !ok {
		t.Errorf("DownTo of what was put back = %x, %v", again, ok)
	}
	if nos, ok := impl.DropsOf(back, elder); !slices.Equal(nos, []int{2}) || !ok {
		t.Errorf("DropsOf of what was put back = %v, %v", nos, ok)
	}
}
