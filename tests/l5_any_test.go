package tests

import (
	"slices"
	"strings"
	"testing"

	"loop.example/g00333/impl"
)

func anyNos() [][]int {
	l := [][]int{
		nil, {}, {1, 2, 3}, {3, 2, 1}, allNos(), append(allNos(), 31), make([]int, 30), make([]int, 1<<16),
		slices.Repeat(allNos(), 1000),
	}
	long := make([]int, 1<<16)
	for i := range long {
		long[i] = i + 1
	}
	for _, n := range anyNumbers() {
		l = append(l, []int{n}, []int{1, n}, []int{n, 30}, []int{n, n}, []int{n, n + 1})
	}
	return append(l, long)
}

func anyBytes() []string {
	return append(anyTexts(),
		"\x08\x02", "\x0a\x00", "\xf0\x01\x05", "\x08\x02\x12\x01a", "\x12\x01a\x08\x02", "\x0a\x02\x08\x02",
		"\x0a\x0a"+strings.Repeat("\x00", 10), "\x0a\x8d\x03"+strings.Repeat("\x02", 397),
		"\x12\x8d\x03"+strings.Repeat("\x02", 397), "\x12\x8e\x03"+strings.Repeat("\x02", 398),
	)
}

// behindNos lays marks behind a list's length: they are neither to be read, nor written, nor handed out.
func behindNos(nos []int) ([]int, []int) {
	memory := append(slices.Clone(nos), 30, 77, 77)
	return memory[:len(nos)], memory
}

// A panic in any of these fails the test by itself.
func TestViewsAnswerAtAnyNos(t *testing.T) {
	texts := anyBytes()
	good := 0
	for _, nos := range anyNos() {
		given, memory := behindNos(nos)
		before := slices.Clone(memory)
		for _, b := range texts {
			if _, ok := seen(t, b, given); ok {
				good++
			}
			for _, view := range texts {
				putBack(t, b, given, view)
			}
		}
		if !slices.Equal(memory, before) {
			t.Fatalf("a list of %d Nos was written into", len(nos))
		}
	}
	if good < 100 {
		t.Error("too few are good:", good)
	}
}

func TestComposeNosAnswersAtAnyNos(t *testing.T) {
	all := anyNos()
	var isGood []bool
	for _, nos := range all {
		isGood = append(isGood, wantNos(nos))
	}
	for i, x := range all {
		a, memoryA := behindNos(x)
		beforeA := slices.Clone(memoryA)
		for j, y := range all {
			b, memoryB := behindNos(y)
			good := isGood[i] && isGood[j]
			var want []int
			for _, no := range x {
				if good && slices.Contains(y, no) {
					want = append(want, no)
				}
			}
			got, ok := impl.ComposeNos(a, b)
			if !slices.Equal(got, want) || ok != good {
				t.Errorf("ComposeNos of %d and %d Nos = %v, %v; want %v", len(x), len(y), got, ok, want)
			}
			if !slices.Equal(memoryB[:len(y)], y) || !slices.Equal(memoryB[len(y):], []int{30, 77, 77}) {
				t.Fatalf("a list of %d Nos was written into", len(y))
			}
			if slices.Contains(got[:cap(got)], 77) {
				t.Errorf("what lies behind is handed out: %v", got[:cap(got)])
			}
		}
		if !slices.Equal(memoryA, beforeA) {
			t.Fatalf("a list of %d Nos was written into", len(x))
		}
	}
}

func TestDownToAnswersAtAnySchemas(t *testing.T) {
	texts := anyBytes()
	told, drops := 0, 0
	for i, s := range anySchemas() {
		given, types := behind(s)
		before := slices.Clone(types)
		good := wantGood(s)
		for _, b := range texts {
			got, ok := impl.DownTo(b, given)
			nos, valid := impl.DropsOf(b, given)
			if good && len(b) <= impl.MaxWire {
				down(t, b, given)
			} else if got != "" || ok || len(nos) != 0 || valid {
				t.Errorf("schema %d, %d bytes: DownTo %x, %v; DropsOf %v, %v", i, len(b), got, ok, nos, valid)
			}
			if ok {
				told++
			}
			if len(nos) > 0 {
				drops++
			}
		}
		if !slices.Equal(types, before) {
			t.Fatalf("schema %d was written into", i)
		}
	}
	if told < 100 || drops < 50 {
		t.Error("too few of a kind:", told, drops)
	}
}

func TestCanReadAnswersAtAnySchemas(t *testing.T) {
	few := []impl.Schema{{}, schema("{}"), schema("{a:1 num}"), schema("{a:1! [{b:2 enum(3)}],c:2 text}"), fullSchema(), wideSchema(30)}
	for i, s := range anySchemas() {
		a, memoryA := behind(s)
		beforeA := slices.Clone(memoryA)
		for j, o := range few {
			b, memoryB := behind(o)
			beforeB := slices.Clone(memoryB)
			good := wantGood(s) && wantGood(o)
			for _, pair := range [][2]impl.Schema{{a, b}, {b, a}} {
				want := good && wantSubtype(pair[0], pair[1])
				if can, ok := impl.CanRead(pair[0], pair[1]); can != want || ok != good {
					t.Errorf("schemas %d, %d: CanRead %v, %v; want %v", i, j, can, ok, want)
				}
			}
			if !slices.Equal(memoryA, beforeA) || !slices.Equal(memoryB, beforeB) {
				t.Fatalf("schemas %d, %d: one was written into", i, j)
			}
		}
	}
}

func TestViewsDoNotReadBehindTheLength(t *testing.T) {
	nos := []int{1, 2, 30}
	b := wireOf(number(1, 5), data(2, "t"), number(30, 6))
	if got, ok := impl.ViewOf(b, nos[:1]); got != wireField(number(1, 5)) || !ok {
		t.Errorf("ViewOf through the first No = %x, %v", got, ok)
	}
	if got, ok := impl.PutView(b, nos[:1], ""); got != wireOf(data(2, "t"), number(30, 6)) || !ok {
		t.Errorf("PutView through the first No = %x, %v", got, ok)
	}
	if got, ok := impl.PutView(b, nos[:1], wireField(number(2, 5))); got != "" || ok {
		t.Errorf("PutView of what lies behind = %x, %v", got, ok)
	}
	if got, ok := impl.ComposeNos(nos[:2], nos); !slices.Equal(got, []int{1, 2}) || !ok {
		t.Errorf("ComposeNos of the first two Nos = %v, %v", got, ok)
	}
	// Nos that are wrong, but lie behind the length.
	if got, ok := impl.ViewOf(b, []int{2, 1, 0, 99}[:1]); got != wireField(data(2, "t")) || !ok {
		t.Errorf("ViewOf with wrong Nos behind = %x, %v", got, ok)
	}
	// A part that the schema's memory has behind its length is unknown.
	short := impl.Schema{Types: schema("{n:1 num,t:2 text}").Types[:2]}
	if nos, ok := impl.DropsOf(b, short); !slices.Equal(nos, []int{2, 30}) || !ok {
		t.Errorf("DropsOf = %v, %v", nos, ok)
	}
	if got, ok := impl.DownTo(b, short); got != wireField(number(1, 5)) || !ok {
		t.Errorf("DownTo = %x, %v", got, ok)
	}
}

func TestListsOfNosAreNewMemory(t *testing.T) {
	a, b := []int{1, 2, 3}, []int{1, 2, 3}
	s, bytes := schema("{n:2 num}"), wireOf(number(1, 5), number(2, 6), number(3, 7), number(4, 8))
	for name, answer := range map[string]func() ([]int, bool){
		"ComposeNos":              func() ([]int, bool) { return impl.ComposeNos(a, b) },
		"ComposeNos with itself":  func() ([]int, bool) { return impl.ComposeNos(a, a) },
		"ComposeNos with a piece": func() ([]int, bool) { return impl.ComposeNos(a[:2], a) },
		"DropsOf":                 func() ([]int, bool) { return impl.DropsOf(bytes, s) },
	} {
		first, _ := answer()
		want := slices.Clone(first)
		second, ok := answer()
		for i := range first {
			first[i] = 77
		}
		_ = append(first, 77)
		_ = append(first[:1], 77)
		third, _ := answer()
		if !ok || len(want) < 2 || !slices.Equal(second, want) || !slices.Equal(third, want) {
			t.Errorf("%s: an answer shares memory: %v, %v, %v", name, want, second, third)
		}
	}
	if !slices.Equal(a, []int{1, 2, 3}) || !slices.Equal(b, []int{1, 2, 3}) {
		t.Error("an answer shares memory with an argument:", a, b)
	}
}

func TestBytesOfViewsAreNewMemory(t *testing.T) {
	b := strings.Clone(wireOf(number(1, 5), data(2, "text")))
	view := strings.Clone(wireField(data(2, "other")))
	s := schema("{n:1 num,t:2 text}")
	for name, answer := range map[string]func() (string, bool){
		"ViewOf all":          func() (string, bool) { return impl.ViewOf(b, []int{1, 2}) },
		"ViewOf the first":    func() (string, bool) { return impl.ViewOf(b, []int{1}) },
		"ViewOf the last":     func() (string, bool) { return impl.ViewOf(b, []int{2}) },
		"PutView":             func() (string, bool) { return impl.PutView(b, []int{2}, view) },
		"PutView of nothing":  func() (string, bool) { return impl.PutView(b, nil, "") },
		"PutView of all":      func() (string, bool) { return impl.PutView(b, []int{1, 2}, view) },
		"PutView into no one": func() (string, bool) { return impl.PutView("", []int{2}, view) },
		"DownTo":              func() (string, bool) { return impl.DownTo(b, s) },
	} {
		first, ok := answer()
		second, _ := answer()
		if !ok || first == "" || first != second {
			t.Errorf("%s = %x, %v; once more %x", name, first, ok, second)
		}
		if within(first, b) || within(first, view) || within(first, second) {
			t.Errorf("%s shares memory", name)
		}
	}
}
