package tests

import (
	"slices"
	"strings"
	"testing"
	"unsafe"

	"loop.example/g00333/impl"
)

func anySources() []string {
	l := append(anyTexts(), "{}", "{a:1 num}", "{a:1! [{b:2 enum(3)}],c:2 {d:1 text}}", ".", "a.b", "a", "c.d")
	for _, piece := range []string{"{", "[", "}", "{a:1", "{a:1{", "{a:1 [", "a:1 num,", "{a:", " ", "\n", "!", ",", "9", "é", "\xc3", "\xf0\x9f"} {
		for _, times := range []int{1, 2, 79, 100, 399, 400, 401, 1 << 16} {
			l = append(l, strings.Repeat(piece, times), "{a:1 "+strings.Repeat(piece, times), "{"+strings.Repeat(piece, times)+"}")
		}
	}
	for _, s := range slices.Clone(l) {
		if len(s) < impl.MaxSource {
			l = append(l, s+strings.Repeat(" ", impl.MaxSource-len(s)), s+strings.Repeat("\n", impl.MaxSource-len(s)+1))
		}
	}
	return l
}

// A panic in any of these fails the test by itself.
func TestTextsAnswerAtAnyTexts(t *testing.T) {
	for _, text := range anySources() {
		s, at, ok := impl.ReadSchema(text)
		if len(text) > impl.MaxSource && (ok || at != 0) || at < 0 || at > len(text) || ok && at != 0 {
			t.Errorf("ReadSchema of %d bytes: %d, %v", len(text), at, ok)
		}
		if ok != impl.GoodSchema(s) || !ok && len(s.Types) != 0 {
			t.Errorf("ReadSchema of %d bytes: %v, %v", len(text), s, ok)
		}
		if tidy, is := impl.TidySchema(text); is && !ok || !is && tidy != "" || len(tidy) > impl.MaxSource {
			t.Errorf("TidySchema of %d bytes: %q, %v", len(text), tidy, is)
		}
	}
}

func TestTextsAnswerAtAnySchemas(t *testing.T) {
	sources := anySources()
	for i, s := range anySchemas() {
		given, memory := behind(s)
		before := slices.Clone(memory)
		good := wantGood(s)
		if text, ok := impl.SchemaText(given); ok && !good || !ok && text != "" || good && ok != (len(wantText(s)) <= impl.MaxSource) {
			t.Errorf("schema %d: SchemaText %q, %v", i, text, ok)
		}
		for _, k := range append(anyNumbers(), 2, 3, 4, 5) {
			path, ok := impl.PathOf(given, k)
			if ok && (!good || k < 0 || k >= len(s.Types)) || !ok && path != "" {
				t.Errorf("schema %d: PathOf %d: %q, %v", i, k, path, ok)
			}
		}
		for _, path := range sources {
			k, ok := impl.TypeAt(given, path)
			if ok && (!good || k < 0 || k >= len(s.Types)) || !ok && k != 0 {
				t.Errorf("schema %d: TypeAt of %d bytes: %d, %v", i, len(path), k, ok)
			}
		}
		if !slices.Equal(memory, before) {
			t.Fatalf("schema %d was written into", i)
		}
	}
}

// What lies behind a list's length is no part of the schema: its text and its paths do not have it.
func TestTextsDoNotReadBehindTheLength(t *testing.T) {
	for _, s := range goodSchemas() {
		given, _ := behind(s)
		if text, ok := impl.SchemaText(given); text != wantText(s) || !ok {
			t.Errorf("SchemaText = %q, %v", text, ok)
		}
		if path, ok := impl.PathOf(given, len(s.Types)); path != "" || ok {
			t.Errorf("PathOf behind the end: %q, %v", path, ok)
		}
		if k, ok := impl.TypeAt(given, "mark"); k != 0 || ok {
			t.Errorf("TypeAt behind the end: %d, %v", k, ok)
		}
	}
}

// within tells whether a text lies in another one's memory.
func within(inner, outer string) bool {
	at, from := uintptr(unsafe.Pointer(unsafe.StringData(inner))), uintptr(unsafe.Pointer(unsafe.StringData(outer)))
	return from <= at && at < from+uintptr(len(outer))
}

func TestReadSchemaHandsOutNewMemory(t *testing.T) {
	text := strings.Clone("{name:1! [{other:2 enum(3)}],third:2 {fourth:1 text}}")
	want := schema(text)
	first, _, _ := impl.ReadSchema(text)
	for k := range first.Types {
		first.Types[k] = impl.Type{Kind: 77}
	}
	_ = append(first.Types[:1], impl.Type{Kind: 77})
	second, at, ok := impl.ReadSchema(text)
	if !sameSchema(second, want) || at != 0 || !ok {
		t.Error("an answer shares memory", second, at, ok)
	}
	for _, typ := range second.Types {
		if typ.Name != "" && within(typ.Name, text) {
			t.Error("a Name shares the text's memory:", typ.Name)
		}
	}
	if tidy, ok := impl.TidySchema(text); tidy != text || !ok || within(tidy, text) {
		t.Error("TidySchema shares the text's memory:", tidy, ok)
	}
}

func TestPathOfHandsOutNewMemory(t *testing.T) {
	s := schema("{name:1! {other:2 enum(3)}}")
	for k := range s.Types {
		s.Types[k].Name = strings.Clone(s.Types[k].Name)
	}
	for k, want := range []string{"", "name", "name.other"} {
		path, ok := impl.PathOf(s, k)
		if path != want || !ok || k > 0 && (within(path, s.Types[1].Name) || within(path, s.Types[2].Name)) {
			t.Errorf("PathOf %d: %q, %v", k, path, ok)
		}
	}
}
