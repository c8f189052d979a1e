package tests

import (
	"math"
	"slices"
	"strings"
	"testing"
	"unsafe"

	"loop.example/g00333/impl"
)

func anySchemas() []impl.Schema {
	l := append(goodSchemas(), wrongSchemas()...)
	for _, n := range anyNumbers() {
		l = append(l,
			impl.Schema{Types: []impl.Type{{Kind: n, No: n, Up: n, Most: n}}},
			impl.Schema{Types: []impl.Type{{Kind: impl.TypeMessage, Up: n}}},
			impl.Schema{Types: []impl.Type{{Kind: impl.TypeMessage, Up: -1}, {Kind: n, Name: "a", No: 1}}},
			impl.Schema{Types: []impl.Type{{Kind: impl.TypeMessage, Up: -1}, {Kind: impl.TypeNumber, Name: "a", No: n}}},
			impl.Schema{Types: []impl.Type{{Kind: impl.TypeMessage, Up: -1}, {Kind: impl.TypeNumber, Name: "a", No: 1, Up: n}}},
			impl.Schema{Types: []impl.Type{{Kind: impl.TypeMessage, Up: -1}, {Kind: impl.TypeEnum, Name: "a", No: 1, Most: n}}},
			impl.Schema{Types: []impl.Type{{Kind: impl.TypeMessage, Up: -1}, {Kind: impl.TypeList, Name: "a", No: 1}, {Kind: n, Up: 1}}},
		)
	}
	for _, s := range anyTexts() {
		l = append(l, impl.Schema{Types: []impl.Type{{Kind: impl.TypeMessage, Up: -1}, {Kind: impl.TypeText, Name: s, No: 1}}})
	}
	deep := []impl.Type{{Kind: impl.TypeMessage, Up: -1}}
	for k := range 1 << 16 {
		deep = append(deep, impl.Type{Kind: impl.TypeList, Name: "a", No: 1, Up: k})
	}
	return append(l, impl.Schema{Types: deep}, impl.Schema{Types: deep[:30]}, impl.Schema{Types: make([]impl.Type, 30)})
}

// behind lays marks behind a list's length: they are neither to be read, nor written, nor handed out.
func behind(s impl.Schema) (impl.Schema, []impl.Type) {
	mark := impl.Type{Kind: impl.TypeNumber, Name: "mark", No: 30, Must: true, Up: 0}
	memory := append(slices.Clone(s.Types), mark, mark, mark)
	return impl.Schema{Types: memory[:len(s.Types)]}, memory
}

// A panic in any of these fails the test by itself.
func TestTypesAnswerAtAnySchemas(t *testing.T) {
	for i, s := range anySchemas() {
		given, memory := behind(s)
		before := slices.Clone(memory)
		good := impl.GoodSchema(given)
		if good != wantGood(s) {
			t.Errorf("schema %d: GoodSchema %v", i, good)
		}
		for _, k := range append(anyNumbers(), 2, 3, 4, 5) {
			there := good && k >= 0 && k < len(s.Types)
			if l, ok := impl.FieldsOf(given, k); ok != there || !ok && len(l) != 0 {
				t.Errorf("schema %d: FieldsOf %d: %v, %v", i, k, l, ok)
			}
			whole := there && s.Types[k].Kind == impl.TypeMessage
			if sub, ok := impl.SubSchema(given, k); ok != whole || ok != impl.GoodSchema(sub) || !ok && len(sub.Types) != 0 {
				t.Errorf("schema %d: SubSchema %d: %v, %v", i, k, sub, ok)
			}
		}
		if d, ok := impl.DeepOf(given); ok != good || (d > 0) != good {
			t.Errorf("schema %d: DeepOf %d, %v", i, d, ok)
		}
		if !slices.Equal(memory, before) {
			t.Fatalf("schema %d was written into", i)
		}
	}
}

func TestTypesAnswerAtAnyTwoSchemas(t *testing.T) {
	all := anySchemas()
	few := []impl.Schema{{}, schema("{}"), schema("{a:1 num}"), schema("{a:1! [{b:2 enum(3)}],c:2 text}"), fullSchema(), wideSchema(30)}
	for i, s := range all {
		a, memoryA := behind(s)
		beforeA := slices.Clone(memoryA)
		for j, o := range few {
			b, memoryB := behind(o)
			beforeB := slices.Clone(memoryB)
			good := wantGood(s) && wantGood(o)
			for _, pair := range [][2]impl.Schema{{a, b}, {b, a}} {
				if is, ok := impl.IsSubtype(pair[0], pair[1]); ok != good || is && !ok {
					t.Errorf("schemas %d, %d: IsSubtype %v, %v", i, j, is, ok)
				}
				if met, ok := impl.MeetOf(pair[0], pair[1]); ok && !good || ok != impl.GoodSchema(met) || !ok && len(met.Types) != 0 {
					t.Errorf("schemas %d, %d: MeetOf %v, %v", i, j, met, ok)
				}
				if joined, ok := impl.JoinOf(pair[0], pair[1]); ok != good || ok != impl.GoodSchema(joined) || !ok && len(joined.Types) != 0 {
					t.Errorf("schemas %d, %d: JoinOf %v, %v", i, j, joined, ok)
				}
			}
			if !slices.Equal(memoryA, beforeA) || !slices.Equal(memoryB, beforeB) {
				t.Fatalf("schemas %d, %d: one was written into", i, j)
			}
		}
	}
}

func TestTypesHandOutNewMemory(t *testing.T) {
	s := schema("{a:1! [{b:2 enum(3)}],c:2 {d:1 text}}")
	s.Types[1].Name = strings.Clone(s.Types[1].Name + "aa")
	s.Types[5].Name = strings.Clone(s.Types[5].Name + "dd")
	before := copyOf(s)
	answers := []func() impl.Schema{
		func() impl.Schema { sub, _ := impl.SubSchema(s, 0); return sub },
		func() impl.Schema { met, _ := impl.MeetOf(s, s); return met },
		func() impl.Schema { met, _ := impl.MeetOf(s, schema("{}")); return met },
		func() impl.Schema { met, _ := impl.MeetOf(schema("{}"), s); return met },
		func() impl.Schema { joined, _ := impl.JoinOf(s, s); return joined },
	}
	for i, answer := range answers {
		first, second := answer(), answer()
		for k := range first.Types {
			first.Types[k] = impl.Type{Kind: 77, Up: math.MaxInt}
		}
		_ = append(first.Types[:1], impl.Type{})
		if !sameSchema(s, before) || !sameSchema(second, before) {
			t.Errorf("answer %d shares memory: %v, %v", i, s, second)
		}
		for _, k := range []int{1, 5} {
			if unsafe.StringData(second.Types[k].Name) == unsafe.StringData(s.Types[k].Name) {
				t.Errorf("answer %d: a Name shares the argument's memory", i)
			}
		}
	}
	l, _ := impl.FieldsOf(s, 0)
	l[0] = 9
	if again, ok := impl.FieldsOf(s, 0); !slices.Equal(again, []int{1, 4}) || !ok {
		t.Error("FieldsOf shares memory", again, ok)
	}
}
