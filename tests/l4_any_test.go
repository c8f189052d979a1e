package tests

import (
	"math"
	"slices"
	"strings"
	"testing"
	"unsafe"

	"loop.example/g00333/impl"
)

func anyValues() []impl.Value {
	l := []impl.Value{
		{}, {Nodes: []impl.Node{}}, {Nodes: make([]impl.Node, 1)}, {Nodes: make([]impl.Node, impl.MaxNodes)},
		{Nodes: make([]impl.Node, impl.MaxNodes+1)}, {Nodes: make([]impl.Node, 1<<16)},
		value("{}"), value("{1:1}"), value("{1:'a'}"), value("{1:[]}"), value("{1:[{2:3},{}],2:'c'}"), value("{1:{}}"), value("{1:{1:{1:{1:{}}}}}"),
	}
	for _, n := range anyNumbers() {
		l = append(l,
			impl.Value{Nodes: []impl.Node{{Num: n, No: n, Up: n}}},
			impl.Value{Nodes: []impl.Node{{Up: n, Many: true}}},
			impl.Value{Nodes: []impl.Node{{Up: -1, Many: true}, {No: 1, Num: n}}},
			impl.Value{Nodes: []impl.Node{{Up: -1, Many: true}, {No: n}}},
			impl.Value{Nodes: []impl.Node{{Up: -1, Many: true}, {No: 1, Up: n, Many: true}}},
			impl.Value{Nodes: []impl.Node{{Up: -1, Many: true}, {No: 1, Many: true}, {Up: n, Num: n}, {Up: 1}}},
		)
	}
	for _, text := range anyTexts() {
		l = append(l, impl.Value{Nodes: []impl.Node{{Up: -1, Many: true}, {No: 1, Text: text}}}, impl.Value{Nodes: []impl.Node{{Up: -1, Many: true, Text: text}}})
	}
	// Each node in the one ahead of it, in the one behind it, in itself.
	for _, step := range []int{-1, 1, 0} {
		nodes := make([]impl.Node, impl.MaxNodes)
		for at := range nodes {
			nodes[at] = impl.Node{No: min(1, at), Up: at + step, Many: true}
		}
		l = append(l, impl.Value{Nodes: nodes})
	}
	return l
}

// behindNodes lays marks behind a list's length: they are neither to be read, nor written, nor handed out.
func behindNodes(v impl.Value) (impl.Value, []impl.Node) {
	mark := impl.Node{No: 30, Num: 77}
	memory := append(slices.Clone(v.Nodes), mark, mark, mark)
	return impl.Value{Nodes: memory[:len(v.Nodes)]}, memory
}

// A panic in any of these fails the test by itself.
func TestCodecAnswersAtAnyValues(t *testing.T) {
	values := anyValues()
	fit := 0
	for i, s := range anySchemas() {
		given, types := behind(s)
		typesBefore := slices.Clone(types)
		for j, v := range values {
			fits := wantFits(v, s)
			held, nodes := behindNodes(v)
			before := slices.Clone(nodes)
			if impl.FitsSchema(held, given) != fits {
				t.Errorf("schema %d, value %d: FitsSchema %v", i, j, !fits)
			}
			if b, ok := impl.EncodeValue(held, given); ok != fits || !ok && b != "" || ok && b != wantBytes(v, s) {
				t.Errorf("schema %d, value %d: EncodeValue %x, %v", i, j, b, ok)
			}
			if many, ok := impl.NodesIn(held, given); ok != fits || ok != (many > 0) {
				t.Errorf("schema %d, value %d: NodesIn %d, %v", i, j, many, ok)
			}
			for _, no := range []int{math.MinInt, -1, 0, 1, 2, 30, 31, math.MaxInt} {
				part, ok := impl.GetPart(held, given, no)
				if ok != (len(part.Nodes) > 0) || ok && !fits {
					t.Errorf("schema %d, value %d: GetPart %d: %v, %v", i, j, no, part, ok)
				}
			}
			if !slices.Equal(nodes, before) {
				t.Fatalf("schema %d: value %d was written into", i, j)
			}
			if fits {
				fit++
			}
		}
		if !slices.Equal(types, typesBefore) {
			t.Fatalf("schema %d was written into", i)
		}
	}
	if fit < 100 {
		t.Error("too few fit:", fit)
	}
}

func TestCodecAnswersAtAnyBytes(t *testing.T) {
	texts := append(anyTexts(), "\x08\x02", "\x0a\x00", "\x0a\x02\x08\x02", "\x0a\x05"+strings.Repeat("\x00", 5), "\x0a\x08\x0a\x06\x0a\x04\x0a\x02\x0a\x00")
	for i, s := range anySchemas() {
		given, types := behind(s)
		before := slices.Clone(types)
		good := wantGood(s)
		if v, ok := impl.DefaultOf(given); ok != good || ok != wantFits(v, s) || !ok && len(v.Nodes) != 0 {
			t.Errorf("schema %d: DefaultOf %v, %v", i, v, ok)
		}
		for _, b := range texts {
			asSaid := good && len(b) <= impl.MaxWire
			is, ok := impl.IsValid(b, given)
			v, decodes := impl.DecodeValue(b, given)
			if asSaid {
				tells(t, b, given)
				continue
			}
			if is || ok || decodes || len(v.Nodes) != 0 {
				t.Errorf("schema %d, %d bytes: %v, %v, %v, %v", i, len(b), is, ok, v, decodes)
			}
		}
		if !slices.Equal(types, before) {
			t.Fatalf("schema %d was written into", i)
		}
	}
}

func TestCodecDoesNotReadBehindTheLength(t *testing.T) {
	s := schema("{n:1! num,l:2 [num],m:3! {a:1! num}}")
	v := value("{1:1,2:[2,3],3:{1:4}}")
	for many := range v.Nodes {
		fitsNot(t, "what lies behind makes it whole", impl.Value{Nodes: v.Nodes[:many]}, s)
	}
	longer := impl.Value{Nodes: append(slices.Clone(v.Nodes), impl.Node{No: 9, Up: 5}, impl.Node{Up: -1})}
	if !valueComesBack(t, impl.Value{Nodes: longer.Nodes[:len(v.Nodes)]}, s) {
		t.Error("what lies behind is no part of the value")
	}
	fitsNot(t, "what is within the length counts", longer, s)
	// A part that the schema's memory has behind its length is unknown.
	short := impl.Schema{Types: schema("{n:1 num,m:3 num}").Types[:2]}
	if d, ok := impl.DecodeValue("\x08\x02\x1a\x01x", short); !sameValue(d, value("{1:1}")) || !ok {
		t.Error("the type behind the length is read:", d, ok)
	}
}

func sharesText(a, b impl.Value) bool {
	for _, m := range a.Nodes {
		for _, n := range b.Nodes {
			if m.Text != "" && unsafe.StringData(m.Text) == unsafe.StringData(n.Text) {
				return true
			}
		}
	}
	return false
}

func TestGetPartHandsOutNewMemory(t *testing.T) {
	s := schema("{n:1 num,m:2 {t:1 text,l:2 [text]},z:3 num}")
	v := value("{1:5,2:{1:'one',2:['two','three']},3:6}")
	for at := range v.Nodes {
		v.Nodes[at].Text = strings.Clone(v.Nodes[at].Text)
	}
	before := slices.Clone(v.Nodes)
	first, _ := impl.GetPart(v, s, 2)
	second, ok := impl.GetPart(v, s, 2)
	for at := range first.Nodes {
		first.Nodes[at] = impl.Node{Num: 77}
	}
	_ = append(first.Nodes[:1], impl.Node{Num: 77})
	_ = append(first.Nodes, impl.Node{Num: 77})
	if !slices.Equal(v.Nodes, before) || !sameValue(second, value("{1:'one',2:['two','three']}")) || !ok {
		t.Error("an answer shares memory:", v, second, ok)
	}
	if sharesText(second, v) {
		t.Error("a Text shares the argument's memory")
	}
	if slices.ContainsFunc(second.Nodes[:cap(second.Nodes)], func(n impl.Node) bool { return n.No == 3 || n.Num == 6 }) {
		t.Error("what lies behind the part is handed out:", second.Nodes[:cap(second.Nodes)])
	}
}

func TestDecodeValueHandsOutNewMemory(t *testing.T) {
	s := schema("{t:1 text,l:2 [text],m:3 {t:1 text}}")
	want := value("{1:'one',2:['two','three'],3:{1:'four'}}")
	b := strings.Clone(wantBytes(want, s))
	first, _ := impl.DecodeValue(b, s)
	second, ok := impl.DecodeValue(b, s)
	for at := range first.Nodes {
		first.Nodes[at] = impl.Node{Num: 77}
	}
	_ = append(first.Nodes[:1], impl.Node{Num: 77})
	if !sameValue(second, want) || !ok {
		t.Error("an answer shares memory:", second, ok)
	}
	for _, n := range second.Nodes {
		if n.Text != "" && within(n.Text, b) {
			t.Error("a Text shares the bytes' memory:", n.Text)
		}
	}
	first, _ = impl.DecodeValue(b, s)
	if sharesText(first, second) {
		t.Error("two answers share a Text")
	}
}

func TestEncodeValueHandsOutNewMemory(t *testing.T) {
	s := schema("{t:1 text,l:2 [text]}")
	v := value("{1:'one',2:['two']}")
	b, ok := impl.EncodeValue(v, s)
	if b != wantBytes(v, s) || !ok {
		t.Fatalf("EncodeValue = %x, %v", b, ok)
	}
	for _, n := range v.Nodes {
		if n.Text != "" && (within(n.Text, b) || within(b, n.Text)) {
			t.Error("the bytes share a Text's memory:", n.Text)
		}
	}
}

func TestDefaultOfHandsOutNewMemory(t *testing.T) {
	s := schema("{n:1! num,m:2! {t:1! text}}")
	first, _ := impl.DefaultOf(s)
	for at := range first.Nodes {
		first.Nodes[at] = impl.Node{Num: 77}
	}
	if second, ok := impl.DefaultOf(s); !sameValue(second, value("{1:0,2:{1:''}}")) || !ok {
		t.Error("an answer shares memory:", second, ok)
	}
}
