package tests

import (
	"maps"
	"slices"
	"strings"
	"sync"
	"testing"
	"unsafe"

	"loop.example/g00333/impl"
)

func anyPrograms() []impl.Program {
	end := instr("e")
	l := []impl.Program{
		{}, {Instrs: []impl.Instr{}}, {Instrs: make([]impl.Instr, 1)}, {Instrs: make([]impl.Instr, 60)}, {Instrs: make([]impl.Instr, 61)},
		{Instrs: make([]impl.Instr, 1<<16)}, {Instrs: slices.Repeat([]impl.Instr{end}, 60)}, {Instrs: slices.Repeat([]impl.Instr{end}, 1<<16)},
		{Instrs: slices.Repeat([]impl.Instr{{Code: impl.CodeJump, To: 59}}, 60)}, flipsOf(1 << 12), jumpsOf(1 << 12),
	}
	for _, n := range append(anyNumbers(), 59, 60, 61) {
		l = append(l,
			instrs(impl.Instr{Code: n}),
			instrs(impl.Instr{Code: n}, end),
			instrs(impl.Instr{Code: n, Kind: n, No: n, Num: n, To: n}, end),
			instrs(impl.Instr{Code: n, No: 1}, end),
			instrs(impl.Instr{Code: impl.CodeTest, Kind: n}, end),
			instrs(impl.Instr{Code: impl.CodeJump, To: n}, end),
			instrs(impl.Instr{Code: impl.CodeJump, To: n}, instr("f"), instr("f"), end),
			instrs(instr("f"), instr("f"), impl.Instr{Code: impl.CodeJump, Num: 1, To: n}, end),
			instrs(impl.Instr{Code: impl.CodeJump, Num: n, To: 1}, end),
			instrs(impl.Instr{Code: impl.CodeJump, Num: n, To: 1}, impl.Instr{Code: impl.CodeJump, Num: n, To: 2}, end),
		)
		for code := impl.CodeSeek; code <= impl.CodeEnd; code++ {
			for _, in := range []impl.Instr{{Kind: n}, {No: n}, {Num: n}, {To: n}, {No: 1, Num: n}, {Kind: impl.WantEq, Num: n}, {Kind: impl.WantEq, No: n}} {
				in.Code = code
				l = append(l, instrs(in, end), instrs(in))
			}
		}
	}
	for _, text := range anyTexts() {
		for code := impl.CodeSeek; code <= impl.CodeEnd; code++ {
			l = append(l, instrs(impl.Instr{Code: code, Text: text}, end), instrs(impl.Instr{Code: code, Text: text}),
				instrs(instr("s1"), impl.Instr{Code: code, Kind: impl.WantStarts, Text: text}, instr("s1"), instr("f"), instr("f"), end))
		}
	}
	wrong := wrongPrograms()
	for _, name := range slices.Sorted(maps.Keys(wrong)) {
		l = append(l, wrong[name])
	}
	return append(l, goodPrograms()...)
}

// behindInstrs lays marks behind a list's length: they are neither to be read, nor written, nor handed out. The
// first one would make a program of instructions that has no end a good one.
func behindInstrs(p impl.Program) (impl.Program, []impl.Instr) {
	memory := append(slices.Clone(p.Instrs), instr("e"), instr("s29"), instr("f"))
	return impl.Program{Instrs: memory[:len(p.Instrs)]}, memory
}

// A panic in any of these fails the test by itself.
func TestProgramsAnswerAtAnyPrograms(t *testing.T) {
	good := 0
	for i, p := range anyPrograms() {
		given, memory := behindInstrs(p)
		before := slices.Clone(memory)
		want := wantGoodProgram(p)
		if impl.GoodProgram(given) != want {
			t.Errorf("program %d: good is not %v", i, want)
		}
		var better impl.Program
		steps := 0
		if want {
			good++
			better, _ = wantBetter(p)
			steps = len(p.Instrs)
		}
		if got, ok := impl.PeepholeOf(given); !sameProgram(got, better) || ok != want {
			t.Errorf("program %d: PeepholeOf %v, %v; want %v", i, got, ok, better)
		}
		if got, ok := impl.StepsOf(given); got != steps || ok != want {
			t.Errorf("program %d: StepsOf %d, %v; want %d", i, got, ok, steps)
		}
		if !slices.Equal(memory, before) {
			t.Fatalf("program %d was written into", i)
		}
	}
	if good < 80 {
		t.Error("too few are good:", good)
	}
}

func TestRunProgramAnswersAtAnyProgramsAndBytes(t *testing.T) {
	texts := append(anyBytes(), allFields(), wireOf(number(1, 5), data(2, "hello")), wireOf(number(1, -impl.MaxNumber), number(30, 0)))
	wrong := wrongBytes()
	for _, name := range slices.Sorted(maps.Keys(wrong)) {
		texts = append(texts, wrong[name])
	}
	told := map[bool]int{}
	for i, p := range anyPrograms() {
		given, memory := behindInstrs(p)
		before := slices.Clone(memory)
		for _, b := range texts {
			want, stepsWant, okWant := wantRun(p, b)
			is, steps, ok := impl.RunProgram(given, b)
			if is != want || steps != stepsWant || ok != okWant {
				t.Errorf("program %d, %d bytes: RunProgram %v, %d, %v; want %v, %d, %v", i, len(b), is, steps, ok, want, stepsWant, okWant)
			}
			if ok {
				told[is]++
			}
		}
		if !slices.Equal(memory, before) {
			t.Fatalf("program %d was written into", i)
		}
	}
	if told[true] < 50 || told[false] < 100 {
		t.Error("too few of a kind:", told)
	}
}

func TestCompileFilterAnswersAtAnyFilters(t *testing.T) {
	good := 0
	for i, f := range anyFilters() {
		given, memory := behindWants(f)
		before := slices.Clone(memory)
		want, okWant := wantCompiled(f)
		got, ok := impl.CompileFilter(given)
		if !sameProgram(got, want) || ok != okWant || ok != impl.GoodProgram(got) {
			t.Errorf("filter %d: CompileFilter %v, %v; want %v, %v", i, got, ok, want, okWant)
		}
		if !slices.Equal(memory, before) {
			t.Fatalf("filter %d was written into", i)
		}
		if ok {
			good++
		}
	}
	if good < 50 {
		t.Error("too few are good:", good)
	}
}

// What lies behind a list's length is no part of it.
func TestProgramsDoNotReadBehindTheLength(t *testing.T) {
	l := program("f f e f e").Instrs
	for end, good := range []bool{false, false, false, true, false, false} {
		p := impl.Program{Instrs: l[:end]}
		if impl.GoodProgram(p) != good {
			t.Errorf("the first %d instructions: good is not %v", end, good)
		}
		if steps, ok := impl.StepsOf(p); ok != good || ok && steps != end {
			t.Errorf("the first %d instructions: StepsOf %d, %v", end, steps, ok)
		}
	}
	three := impl.Program{Instrs: l[:3]}
	runs(t, three, "", false, 3)
	if got, ok := impl.PeepholeOf(three); !sameProgram(got, program("e")) || !ok {
		t.Errorf("PeepholeOf = %v, %v", got, ok)
	}
	// A jump to what lies behind leads nowhere.
	jump := program("j0@2 e e").Instrs
	if impl.GoodProgram(impl.Program{Instrs: jump[:2]}) {
		t.Error("a jump behind the length is good")
	}
	first := impl.Filter{Wants: filter("(1=1&!2^a)").Wants[:1]}
	if got, ok := impl.CompileFilter(first); !sameProgram(got, program("s1 t=1 e")) || !ok {
		t.Errorf("CompileFilter = %v, %v", got, ok)
	}
}

// ownInstrTexts is the program with Texts that are in no other's memory.
func ownInstrTexts(p impl.Program) impl.Program {
	l := slices.Clone(p.Instrs)
	for i := range l {
		l[i].Text = strings.Clone(l[i].Text)
	}
	return impl.Program{Instrs: l}
}

func textsOfInstrs(p impl.Program) []string {
	var l []string
	for _, in := range p.Instrs {
		l = append(l, in.Text)
	}
	return l
}

func textsOfWants(f impl.Filter) []string {
	var l []string
	for _, w := range f.Wants {
		l = append(l, w.Text)
	}
	return l
}

func shareAnyText(l, m []string) bool {
	for _, a := range l {
		for _, b := range m {
			if a != "" && b != "" && unsafe.StringData(a) == unsafe.StringData(b) {
				return true
			}
		}
	}
	return false
}

func spoilInstrs(p impl.Program) {
	for i := range p.Instrs {
		p.Instrs[i] = impl.Instr{Code: 77, No: 77}
	}
	_ = append(p.Instrs, impl.Instr{Code: 77})
	_ = append(p.Instrs[:1], impl.Instr{Code: 77})
	whole := p.Instrs[:cap(p.Instrs)]
	for i := range whole {
		whole[i].To = 77
	}
}

func TestCompileFilterHandsOutNewMemory(t *testing.T) {
	for text, want := range map[string]string{
		"2^hello":              "s2 t^hello e",
		"!(1=5&2^hello)":       "s1 t=5 j0@5 s2 t^hello f e",
		"((2^hello|3^a)&4^he)": "s2 t^hello j1@5 s3 t^a j0@8 s4 t^he e",
	} {
		f := ownWantTexts(filter(text))
		first, _ := impl.CompileFilter(f)
		second, ok := impl.CompileFilter(f)
		if shareAnyText(textsOfInstrs(first), textsOfWants(f)) || shareAnyText(textsOfInstrs(first), textsOfInstrs(second)) {
			t.Errorf("CompileFilter(%s): a Text shares memory", text)
		}
		spoilInstrs(first)
		if !sameProgram(second, program(want)) || !ok || !sameFilter(f, filter(text)) {
			t.Errorf("CompileFilter(%s): two answers share memory: %v, %v", text, second, ok)
		}
	}
}

func TestPeepholeOfHandsOutNewMemory(t *testing.T) {
	for text, want := range map[string]string{
		"s2 t^hello e":                      "s2 t^hello e",
		"s2 t^hello f f e":                  "s2 t^hello e",
		"s2 t^hello s2 t^he e":              "s2 t^hello t^he e",
		"j0@2 s1 j0@5 s2 t^hello e":         "j0@5 s1 j0@5 s2 t^hello e",
		"f f s2 t^a s2 t^b j0@7 j0@8 f f e": "s2 t^a t^b j0@5 j0@5 e",
		"e":                                 "e",
	} {
		p, memory := behindInstrs(ownInstrTexts(program(text)))
		before := slices.Clone(memory)
		first, _ := impl.PeepholeOf(p)
		second, ok := impl.PeepholeOf(p)
		if shareAnyText(textsOfInstrs(first), textsOfInstrs(p)) || shareAnyText(textsOfInstrs(first), textsOfInstrs(second)) {
			t.Errorf("PeepholeOf(%s): a Text shares memory", text)
		}
		spoilInstrs(first)
		if !sameProgram(second, program(want)) || !ok {
			t.Errorf("PeepholeOf(%s): two answers share memory: %v, %v", text, second, ok)
		}
		if !slices.Equal(memory, before) {
			t.Errorf("PeepholeOf(%s): the argument's memory was written into: %v", text, memory)
		}
	}
}

func TestProgramsAnswerTheSameFromManySides(t *testing.T) {
	texts := []string{"(1=5&2^he)", "!(1=5|2^he)", "((1>4&1<6)|!2?)", "!!3?"}
	b := wireOf(number(1, 5), data(2, "hello"))
	want := []bool{true, false, true, false}
	steps := []int{6, 5, 7, 5}
	var joined sync.WaitGroup
	for i := range 16 {
		joined.Go(func() {
			f := filter(texts[i%4])
			code, _ := wantCompiled(f)
			fewer, _ := wantBetter(code)
			for range 100 {
				p, ok := impl.CompileFilter(f)
				is, ran, okRun := impl.RunProgram(p, b)
				q, okBetter := impl.PeepholeOf(p)
				if !sameProgram(p, code) || !ok || is != want[i%4] || ran != steps[i%4] || !okRun || !sameProgram(q, fewer) || !okBetter {
					t.Errorf("%s: %v, %v, %v, %d, %v, %v, %v", texts[i%4], p, ok, is, ran, okRun, q, okBetter)
					return
				}
			}
		})
	}
	joined.Wait()
}
