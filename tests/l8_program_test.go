package tests

import (
	"math"
	"math/rand"
	"slices"
	"strconv"
	"strings"
	"testing"

	"loop.example/g00333/impl"
)

func TestProgramConstants(t *testing.T) {
	if impl.MaxCode != 60 || impl.CodeSeek != 1 || impl.CodeTest != 2 || impl.CodeJump != 3 || impl.CodeFlip != 4 || impl.CodeEnd != 5 {
		t.Error(impl.MaxCode, impl.CodeSeek, impl.CodeTest, impl.CodeJump, impl.CodeFlip, impl.CodeEnd)
	}
}

func TestProgramsWrittenOut(t *testing.T) {
	for text, l := range map[string][]impl.Instr{
		"e":      {{Code: impl.CodeEnd}},
		"f e":    {{Code: impl.CodeFlip}, {Code: impl.CodeEnd}},
		"s30 e":  {{Code: impl.CodeSeek, No: 30}, {Code: impl.CodeEnd}},
		"t=5 e":  {{Code: impl.CodeTest, Kind: impl.WantEq, Num: 5}, {Code: impl.CodeEnd}},
		"t<-5 e": {{Code: impl.CodeTest, Kind: impl.WantLt, Num: -5}, {Code: impl.CodeEnd}},
		"t>0 e":  {{Code: impl.CodeTest, Kind: impl.WantGt}, {Code: impl.CodeEnd}},
		"t? e":   {{Code: impl.CodeTest, Kind: impl.WantHas}, {Code: impl.CodeEnd}},
		"t^ e":   {{Code: impl.CodeTest, Kind: impl.WantStarts}, {Code: impl.CodeEnd}},
		"t^he e": {{Code: impl.CodeTest, Kind: impl.WantStarts, Text: "he"}, {Code: impl.CodeEnd}},
		"j0@2 j1@2 e": {
			{Code: impl.CodeJump, Num: 0, To: 2}, {Code: impl.CodeJump, Num: 1, To: 2}, {Code: impl.CodeEnd},
		},
	} {
		if !sameProgram(program(text), instrs(l...)) {
			t.Errorf("no test: the notation of %s", text)
		}
		if !impl.GoodProgram(instrs(l...)) {
			t.Errorf("%s is not good", text)
		}
	}
}

// flipsOf is so many instructions, all CodeFlips but the last one.
func flipsOf(many int) impl.Program {
	return program(strings.Repeat("f ", many-1) + "e")
}

// jumpsOf is so many instructions, each a CodeJump to the one behind it but the last one.
func jumpsOf(many int) impl.Program {
	var l []impl.Instr
	for at := range many - 1 {
		l = append(l, impl.Instr{Code: impl.CodeJump, To: at + 1})
	}
	return instrs(append(l, instr("e"))...)
}

func goodPrograms() []impl.Program {
	l := []impl.Program{
		flipsOf(1), flipsOf(2), flipsOf(59), flipsOf(60), jumpsOf(59), jumpsOf(60),
		instrs(impl.Instr{Code: impl.CodeTest, Kind: impl.WantStarts, Text: strings.Repeat("\xff", 30)}, instr("e")),
		instrs(impl.Instr{Code: impl.CodeTest, Kind: impl.WantStarts, Text: " \x00\n@"}, instr("e")),
	}
	for _, text := range []string{
		"e", "s1 e", "s2 e", "s29 e", "s30 e", "t=0 e", "t=1000000000 e", "t=-1000000000 e", "t<1000000000 e", "t<-1000000000 e", "t>1000000000 e",
		"t>-1000000000 e", "t=999999999 e", "t? e", "t^ e", "t^a e", "t^" + strings.Repeat("a", 29) + " e", "t^" + strings.Repeat("a", 30) + " e",
		"j0@1 e", "j1@1 e", "j0@2 f e", "j1@1 f e", "f j0@2 e", "j0@3 j1@3 j0@3 e", "j0@1 j0@2 j0@3 e", "f f f e", "t? t? e", "s1 s2 s3 e",
		"s1 t=5 j0@5 s2 t? e", "s1 t=2 j1@5 s2 t? f e", "j0@59 " + strings.Repeat("f ", 58) + "e", strings.Repeat("f ", 58) + "j1@59 e",
		strings.Repeat("s1 t? ", 29) + "f e",
	} {
		l = append(l, program(text))
	}
	return l
}

// wrongInstrs are instructions that are good in no program, wherever they stand among the first five.
func wrongInstrs() map[string]impl.Instr {
	l := map[string]impl.Instr{
		"code 0":            {},
		"code 0 with No":    {No: 1},
		"code 0 with Kind":  {Kind: impl.WantHas},
		"code 0 with To":    {To: 6},
		"code -1":           {Code: -1},
		"code 6":            {Code: 6},
		"code 6 with No":    {Code: 6, No: 1},
		"code the least":    {Code: math.MinInt},
		"code the greatest": {Code: math.MaxInt},
	}
	for name, good := range map[string]impl.Instr{
		"CodeSeek": instr("s1"), "CodeSeek of 30": instr("s30"), "test =": instr("t=1"), "test <": instr("t<-1"), "test >": instr("t>0"),
		"test ?": instr("t?"), "test ^": instr("t^a"), "test of nothing": instr("t^"), "jump 0": instr("j0@6"), "jump 1": instr("j1@6"),
		"CodeFlip": instr("f"),
	} {
		for _, n := range []int{-1, 1, 2, math.MinInt, math.MaxInt} {
			kind, no, num, to := good, good, good, good
			kind.Kind, no.No, num.Num, to.To = n, n, n, n
			if good.Code != impl.CodeTest {
				l[name+" with Kind "+strconv.Itoa(n)] = kind
			}
			if good.Code != impl.CodeSeek {
				l[name+" with No "+strconv.Itoa(n)] = no
			}
			if good.Code != impl.CodeTest && good.Code != impl.CodeJump || good.Kind >= impl.WantHas {
				l[name+" with Num "+strconv.Itoa(n)] = num
			}
			if good.Code != impl.CodeJump {
				l[name+" with To "+strconv.Itoa(n)] = to
			}
		}
		if good.Kind != impl.WantStarts {
			for _, text := range []string{"a", "\x00", strings.Repeat("a", 31)} {
				good.Text = text
				l[name+" with a Text of "+strconv.Itoa(len(text))+text[:1]] = good
			}
		}
	}
	for _, no := range []int{0, -1, 31, math.MinInt, math.MaxInt} {
		l["CodeSeek of "+strconv.Itoa(no)] = impl.Instr{Code: impl.CodeSeek, No: no}
	}
	for _, kind := range []int{0, -1, impl.WantAnd, impl.WantOr, impl.WantNot, 9, math.MinInt, math.MaxInt} {
		l["CodeTest of kind "+strconv.Itoa(kind)] = impl.Instr{Code: impl.CodeTest, Kind: kind}
	}
	for _, kind := range []int{impl.WantEq, impl.WantLt, impl.WantGt} {
		for _, num := range []int{impl.MaxNumber + 1, -impl.MaxNumber - 1, math.MinInt, math.MaxInt} {
			l["CodeTest of kind "+strconv.Itoa(kind)+" against "+strconv.Itoa(num)] = impl.Instr{Code: impl.CodeTest, Kind: kind, Num: num}
		}
	}
	l["CodeTest with 31 bytes"] = impl.Instr{Code: impl.CodeTest, Kind: impl.WantStarts, Text: strings.Repeat("a", 31)}
	for _, num := range []int{-1, 2, math.MinInt, math.MaxInt} {
		l["CodeJump with Num "+strconv.Itoa(num)] = impl.Instr{Code: impl.CodeJump, Num: num, To: 6}
	}
	for _, to := range []int{-1, 0, 8, math.MinInt, math.MaxInt} {
		l["CodeJump to "+strconv.Itoa(to)] = impl.Instr{Code: impl.CodeJump, To: to}
	}
	return l
}

func wrongPrograms() map[string]impl.Program {
	l := map[string]impl.Program{
		"nil":             {},
		"no instructions": instrs([]impl.Instr{}...),
		"61 flips":        flipsOf(61),
		"61 jumps":        jumpsOf(61),
		"61 tests":        program(strings.Repeat("s1 t? ", 30) + "e"),
		"200 flips":       flipsOf(200),
	}
	for _, text := range []string{
		"f", "s1", "t?", "j0@1", "f f", "s1 t?", "e f", "e s1", "e t?", "s1 t? f", "e e", "f e e", "e f e", "s1 e t? e", "j0@2 e e", "e j0@2 e", "e e e",
		"j0@0 e", "j0@2 e", "j1@0 e", "j1@2 e", "j0@-1 e", "f j0@0 e", "f j0@1 e", "f j1@1 e", "f j1@0 e", "f j0@3 e", "f j1@3 e", "f f j0@1 f e",
		"f f j0@2 f e", "f f j0@5 f e", "f f j1@0 f e", "j0@3 j1@1 f e", "j0@61 " + strings.Repeat("f ", 58) + "e", "j0@60 " + strings.Repeat("f ", 58) + "e",
		"j0@1", "f j0@1", "f j0@2",
	} {
		l[text] = program(text)
	}
	for name, in := range wrongInstrs() {
		for at := range 6 {
			p := program("s1 t? j0@6 s2 t=1 f f e")
			p.Instrs[at] = in
			l[name+" at "+strconv.Itoa(at)] = p
		}
		l[name+" put in"] = instrs(instr("s1"), instr("t?"), in, instr("f"), instr("f"), instr("f"), instr("f"), instr("e"))
		l[name+" at the end"] = instrs(instr("s1"), instr("t?"), in)
		l[name+" alone"] = instrs(in)
	}
	end := instr("e")
	for name, in := range map[string]impl.Instr{
		"Kind": {Kind: 1}, "No": {No: 1}, "Num": {Num: 1}, "Num -1": {Num: -1}, "Text": {Text: "a"}, "To": {To: 1}, "To 2": {To: 2}, "To -1": {To: -1},
	} {
		in.Code = end.Code
		l["an end with "+name] = instrs(in)
		l["an end behind with "+name] = instrs(instr("s1"), instr("t?"), in)
	}
	return l
}

func TestGoodProgram(t *testing.T) {
	for _, p := range goodPrograms() {
		if !impl.GoodProgram(p) {
			t.Errorf("%v is not good", p)
		}
		if !wantGoodProgram(p) {
			t.Errorf("no test: %v", p)
		}
	}
	for _, many := range []int{1, 59, 60, 61} {
		if len(flipsOf(many).Instrs) != many || len(jumpsOf(many).Instrs) != many {
			t.Error("no test: the lengths of flips and jumps")
		}
	}
	for name, wrong := range wrongPrograms() {
		if impl.GoodProgram(wrong) {
			t.Errorf("%s is good: %v", name, wrong)
		}
		if wantGoodProgram(wrong) {
			t.Errorf("no test: %s", name)
		}
	}
}

// A jump at each place leads to each place, in programs of some lengths.
func TestWhereJumpsLead(t *testing.T) {
	for _, many := range []int{1, 2, 3, 5, 59, 60} {
		for at := range many - 1 {
			for to := -2; to <= many+2; to++ {
				for num := -1; num <= 2; num++ {
					p := flipsOf(many)
					p.Instrs[at] = impl.Instr{Code: impl.CodeJump, Num: num, To: to}
					want := to > at && to < many && (num == 0 || num == 1)
					if impl.GoodProgram(p) != want {
						t.Errorf("%d instructions, a jump %d from %d to %d: good is not %v", many, num, at, to, want)
					}
				}
			}
		}
	}
}

func TestWrongProgramsGiveZeroAnswers(t *testing.T) {
	fields := []string{"", wireOf(number(1, 1), number(2, 1))}
	for name, wrong := range wrongPrograms() {
		for _, b := range fields {
			if is, steps, ok := impl.RunProgram(wrong, b); is || steps != 0 || ok {
				t.Errorf("%s: RunProgram %v, %d, %v", name, is, steps, ok)
			}
		}
		if steps, ok := impl.StepsOf(wrong); steps != 0 || ok {
			t.Errorf("%s: StepsOf %d, %v", name, steps, ok)
		}
		if p, ok := impl.PeepholeOf(wrong); len(p.Instrs) != 0 || ok {
			t.Errorf("%s: PeepholeOf %v, %v", name, p, ok)
		}
	}
}

func TestWrongFiltersHaveNoProgram(t *testing.T) {
	for name, wrong := range wrongFilters() {
		if p, ok := impl.CompileFilter(wrong); len(p.Instrs) != 0 || ok {
			t.Errorf("%s: CompileFilter %v, %v", name, p, ok)
		}
	}
}

func TestRunProgramOfWrongBytes(t *testing.T) {
	for name, b := range wrongBytes() {
		for _, text := range []string{"e", "f e", "s1 t? e", "s1 t? f e", "s1 t=1 e", "s30 t? f e", "f j1@2 e", "t? e"} {
			if is, steps, ok := impl.RunProgram(program(text), b); is || steps != 0 || ok {
				t.Errorf("%s: RunProgram of %s: %v, %d, %v", name, text, is, steps, ok)
			}
		}
	}
}

func TestStepsOf(t *testing.T) {
	for _, p := range goodPrograms() {
		if steps, ok := impl.StepsOf(p); steps != len(p.Instrs) || !ok {
			t.Errorf("StepsOf(%v) = %d, %v", p, steps, ok)
		}
	}
	for _, many := range []int{1, 2, 59, 60} {
		for _, p := range []impl.Program{flipsOf(many), jumpsOf(many)} {
			if steps, ok := impl.StepsOf(p); steps != many || !ok {
				t.Errorf("StepsOf of %d instructions = %d, %v", many, steps, ok)
			}
		}
	}
}

// runs holds what a program tells of fields, and how many instructions it runs.
func runs(t *testing.T, p impl.Program, b string, want bool, steps int) {
	t.Helper()
	if is, ran, ok := impl.RunProgram(p, b); is != want || ran != steps || !ok {
		t.Errorf("RunProgram(%v, %x) = %v, %d, %v; want %v, %d", p, b, is, ran, ok, want, steps)
	}
}

func TestTheFlagIsAtFirstFalse(t *testing.T) {
	for _, b := range []string{"", wireOf(number(1, 1)), allFields()} {
		runs(t, program("e"), b, false, 1)
		runs(t, program("f e"), b, true, 2)
		runs(t, program("f f e"), b, false, 3)
		runs(t, program("f f f e"), b, true, 4)
		runs(t, program("s1 e"), b, false, 2)
		runs(t, program("s1 f e"), b, true, 3)
		runs(t, program("f s1 e"), b, true, 3)
		runs(t, program("f s9 s1 e"), b, true, 4)
		runs(t, flipsOf(60), b, true, 60)
		runs(t, flipsOf(59), b, false, 59)
	}
}

func TestCodeSeek(t *testing.T) {
	several := wireOf(number(1, 1), data(3, "abc"), number(4, 1), data(29, ""), number(30, -1))
	there := map[int]bool{1: true, 3: true, 4: true, 29: true, 30: true}
	for _, no := range allNos() {
		seeks := instrs(impl.Instr{Code: impl.CodeSeek, No: no}, instr("t?"), instr("e"))
		runs(t, seeks, several, there[no], 3)
		runs(t, seeks, "", false, 3)
		runs(t, seeks, allFields(), true, 3)
		runs(t, seeks, wireOf(number(no, 0)), true, 3)
		runs(t, seeks, wireOf(data(no, "")), true, 3)
		runs(t, seeks, wireOf(data(31-no, wireOf(number(no, 1)))), false, 3)
		// Its own number is asked, not one of another field.
		is := instrs(impl.Instr{Code: impl.CodeSeek, No: no}, impl.Instr{Code: impl.CodeTest, Kind: impl.WantEq, Num: no}, instr("e"))
		runs(t, is, allFields(), true, 3)
		runs(t, is, wireOf(number(31-no, no)), false, 3)
	}
	b := wireOf(number(1, 5), data(3, "abc"), number(4, 7))
	for text, want := range map[string]bool{
		// The later one counts, also where it finds none, and it looks from the front.
		"s1 s2 t? e": false, "s2 s1 t? e": true, "s1 s3 t^a e": true, "s1 s3 t=5 e": false, "s3 s1 t=5 e": true, "s4 s1 t=5 e": true,
		"s4 s3 t^abc e": true, "s30 s4 t=7 e": true, "s4 s4 t=7 e": true, "s4 s30 t=7 e": false,
	} {
		runs(t, program(text), b, want, 4)
	}
	// What is asked, jumped over or flipped leaves the place as it is.
	runs(t, program("s4 t? t=7 e"), b, true, 4)
	runs(t, program("s4 t=8 t=7 e"), b, true, 4)
	runs(t, program("s4 f t=7 e"), b, true, 4)
	runs(t, program("s4 j0@2 t=7 e"), b, true, 4)
	runs(t, program("s4 j0@3 s1 t=7 e"), b, true, 4)
	runs(t, program("s4 j1@3 s1 t=5 e"), b, true, 5)
	runs(t, program("s4 t=7 s1 t=5 s4 t=7 e"), b, true, 7)
}

func TestCodeTestWithoutAPlace(t *testing.T) {
	for _, test := range []string{"t=0", "t=5", "t<1000000000", "t>-1000000000", "t?", "t^", "t^a"} {
		for _, b := range []string{"", wireOf(number(1, 5)), wireOf(number(1, 0)), wireOf(data(1, "a")), wireOf(number(1, 0), data(2, "a"), number(30, 5))} {
			runs(t, program(test+" e"), b, false, 2)
			runs(t, program("f "+test+" e"), b, false, 3)
			runs(t, program(test+" f e"), b, true, 3)
			runs(t, program("s9 "+test+" e"), b, false, 3)
			runs(t, program("f s9 "+test+" e"), b, false, 4)
			runs(t, program("s1 s9 "+test+" e"), b, false, 4)
			runs(t, program(test+" s1 t? e"), b, b != "", 4)
		}
	}
}

func TestCodeTestAtAField(t *testing.T) {
	longest := strings.Repeat("abcdefghij", 3)
	for _, x := range []struct {
		content impl.Field
		is      string // the tests that are so
		not     string
	}{
		{number(7, 5), "t=5 t<6 t>4 t? t<1000000000 t>-1000000000", "t=4 t=6 t=-5 t<5 t<4 t>5 t>6 t^ t^5 t^a"},
		{number(7, 0), "t=0 t<1 t>-1 t?", "t=1 t<0 t>0 t^"},
		{number(7, -5), "t=-5 t<-4 t<0 t>-6 t?", "t=5 t<-5 t>-5 t>0 t^"},
		{number(7, impl.MaxNumber), "t=1000000000 t>999999999 t?", "t=999999999 t<1000000000 t>1000000000 t^"},
		{number(7, -impl.MaxNumber), "t=-1000000000 t<-999999999 t?", "t<-1000000000 t>-1000000000 t=0 t^"},
		{data(7, "hello"), "t? t^ t^h t^he t^hello", "t^hellx t^helloo t^e t^H t=0 t=5 t<1000000000 t>-1000000000"},
		{data(7, ""), "t? t^", "t^h t=0 t<1 t>-1"},
		{data(7, "\x0a"), "t? t^", "t=5 t<6 t>4 t^5"},
		{data(7, longest), "t^" + longest + " t^" + longest[:29], "t^" + longest[:29] + "k t^b"},
		{data(7, longest+"k"), "t^" + longest, "t^k"},
		{data(7, longest[:29]), "t^" + longest[:29], "t^" + longest},
	} {
		among := []string{wireOf(x.content), wireOf(number(1, 5), data(6, "hello"), x.content), wireOf(x.content, number(8, 5), data(30, "hello"))}
		for want, tests := range map[bool]string{true: x.is, false: x.not} {
			for _, test := range strings.Fields(tests) {
				for _, b := range among {
					runs(t, program("s7 "+test+" e"), b, want, 3)
					runs(t, program("f s7 "+test+" e"), b, want, 4)
					runs(t, program("s7 "+test+" f e"), b, !want, 4)
				}
			}
		}
	}
}

func TestCodeJump(t *testing.T) {
	for _, b := range []string{"", wireOf(number(1, 1))} {
		// The flag false, and true; the steps tell where it went on.
		runs(t, program("j0@2 f e"), b, false, 2)
		runs(t, program("j1@2 f e"), b, true, 3)
		runs(t, program("f j1@3 f e"), b, true, 3)
		runs(t, program("f j0@3 f e"), b, false, 4)
		// To just behind, and to the last one over many.
		runs(t, program("j0@1 e"), b, false, 2)
		runs(t, program("j1@1 e"), b, false, 2)
		runs(t, program("j0@1 f e"), b, true, 3)
		runs(t, program("f j1@2 f e"), b, false, 4)
		runs(t, program("j0@59 "+strings.Repeat("f ", 58)+"e"), b, false, 2)
		runs(t, program("j1@59 "+strings.Repeat("f ", 57)+"f e"), b, false, 60)
		// One to another, and the flag stays as it is.
		runs(t, program("j0@2 f j0@4 f e"), b, false, 3)
		runs(t, program("j0@2 f j1@4 f e"), b, true, 4)
		runs(t, program("f j1@3 f j1@5 f e"), b, true, 4)
		runs(t, program("j0@3 f f f e"), b, true, 3)
		runs(t, program("j0@2 f f j1@5 f e"), b, true, 4)
		runs(t, jumpsOf(60), b, false, 60)
	}
	b := wireOf(number(1, 5), number(2, 7))
	runs(t, program("s1 t=5 j0@5 s2 t=7 e"), b, true, 6)
	runs(t, program("s1 t=4 j0@5 s2 t=7 e"), b, false, 4)
	runs(t, program("s1 t=5 j1@5 s2 t=8 e"), b, true, 4)
	runs(t, program("s1 t=4 j1@5 s2 t=8 e"), b, false, 6)
	runs(t, program("s1 t=4 j0@4 s2 t=5 e"), b, true, 5)
}

func TestRunProgramAtTheEnds(t *testing.T) {
	longest := wireOf(data(1, strings.Repeat("a", 397)))
	nearly := wireOf(number(1, 5), data(2, strings.Repeat("b", 395)))
	if len(longest) != impl.MaxWire || len(nearly) != impl.MaxWire {
		t.Fatal("no test: the lengths of bytes", len(longest), len(nearly))
	}
	runs(t, program("s1 t^aaa e"), longest, true, 3)
	runs(t, program("s1 t^ab e"), longest, false, 3)
	runs(t, program("s2 t? e"), longest, false, 3)
	runs(t, program("s1 t=5 j0@5 s2 t^bbb e"), nearly, true, 6)
	runs(t, program(strings.Repeat("s30 t=30 ", 29)+"f e"), allFields(), false, 60)
	// What is in a field need not be any fields, unlike the whole.
	for name, inner := range wrongBytes() {
		if len(inner) > 300 {
			continue
		}
		if is, steps, ok := impl.RunProgram(program("s3 t=1 e"), wireOf(data(2, inner), number(3, 1))); !is || steps != 3 || !ok {
			t.Errorf("%s in a field: %v, %d, %v", name, is, steps, ok)
		}
	}
}

func TestCompileFilterWrittenOut(t *testing.T) {
	for text, want := range map[string]string{
		"1=5":                         "s1 t=5 e",
		"2<-5":                        "s2 t<-5 e",
		"30>1000000000":               "s30 t>1000000000 e",
		"3?":                          "s3 t? e",
		"4^":                          "s4 t^ e",
		"4^hello":                     "s4 t^hello e",
		"!1?":                         "s1 t? f e",
		"!!1?":                        "s1 t? f f e",
		"(1?&2?)":                     "s1 t? j0@5 s2 t? e",
		"(1?|2?)":                     "s1 t? j1@5 s2 t? e",
		"!(1?&2?)":                    "s1 t? j0@5 s2 t? f e",
		"(!1?&2?)":                    "s1 t? f j0@6 s2 t? e",
		"(1?|!2?)":                    "s1 t? j1@6 s2 t? f e",
		"((1?&2?)&3?)":                "s1 t? j0@5 s2 t? j0@8 s3 t? e",
		"(1?&(2?&3?))":                "s1 t? j0@8 s2 t? j0@8 s3 t? e",
		"((1?|2?)|3?)":                "s1 t? j1@5 s2 t? j1@8 s3 t? e",
		"((1?|2?)&3?)":                "s1 t? j1@5 s2 t? j0@8 s3 t? e",
		"((1?&2?)|3?)":                "s1 t? j0@5 s2 t? j1@8 s3 t? e",
		"(1?|(2?&3?))":                "s1 t? j1@8 s2 t? j0@8 s3 t? e",
		"!(1?|!(2?&!3=1))":            "s1 t? j1@10 s2 t? j0@9 s3 t=1 f f f e",
		"((1?&2?)|(3?&4?))":           "s1 t? j0@5 s2 t? j1@11 s3 t? j0@11 s4 t? e",
		"(!(1=2|2?)&!!(3^a|(4?&5?)))": "s1 t=2 j1@5 s2 t? f j0@17 s3 t^a j1@15 s4 t? j0@15 s5 t? f f e",
		"(1?&1?)":                     "s1 t? j0@5 s1 t? e",
	} {
		if got, ok := impl.CompileFilter(filter(text)); !sameProgram(got, program(want)) || !ok {
			t.Errorf("CompileFilter(%s) = %v, %v", text, got, ok)
		}
	}
	// The wants' places, not their order, tell what each has: 1 | (0 & 2), 0 & (1 | 2), !0 | !1.
	first, second, third := filter("1?").Wants[0], filter("2=1").Wants[0], filter("3^a").Wants[0]
	and := func(a, b int) impl.Want { return impl.Want{Kind: impl.WantAnd, A: a, B: b} }
	or := func(a, b int) impl.Want { return impl.Want{Kind: impl.WantOr, A: a, B: b} }
	not := func(a int) impl.Want { return impl.Want{Kind: impl.WantNot, A: a} }
	for want, f := range map[string]impl.Filter{
		"s2 t=1 j1@8 s1 t? j0@8 s3 t^a e": wants(first, second, third, and(0, 2), or(1, 3)),
		"s1 t? j0@8 s2 t=1 j1@8 s3 t^a e": wants(first, second, third, or(1, 2), and(0, 3)),
		"s3 t^a j0@8 s1 t? j1@8 s2 t=1 e": wants(first, second, third, or(0, 1), and(2, 3)),
		"s1 t? f j1@7 s2 t=1 f e":         wants(first, second, not(0), not(1), or(2, 3)),
		"s2 t=1 f j0@7 s1 t? f e":         wants(first, second, not(1), not(0), and(2, 3)),
	} {
		if got, ok := impl.CompileFilter(f); !sameProgram(got, program(want)) || !ok {
			t.Errorf("CompileFilter(%v) = %v, %v; want %s", f, got, ok, want)
		}
	}
}

// No filter's program comes near MaxCode: of MaxTerms wants at most ten ask, nine join them, and one is left.
func TestTheLongestPrograms(t *testing.T) {
	longest := wants(append(rowOf(19).Wants, impl.Want{Kind: impl.WantNot, A: 18})...)
	for want, f := range map[int]impl.Filter{3: chainOf(1), 22: chainOf(20), 6: rowOf(3), 30: rowOf(19), 31: longest} {
		p, ok := impl.CompileFilter(f)
		if steps, good := impl.StepsOf(p); steps != want || !ok || !good {
			t.Errorf("%d wants: %d instructions, %v, %v; want %d", len(f.Wants), steps, ok, good, want)
		}
	}
	source := rand.New(rand.NewSource(80))
	most := 0
	for range 5000 {
		p, ok := impl.CompileFilter(randomFilter(source, 20))
		if !ok {
			t.Fatal("no program of 20 wants")
		}
		most = max(most, len(p.Instrs))
	}
	if most > 31 {
		t.Error("the longest one:", most)
	}
}

// compiledTells holds what promise 8 says of a good filter's program.
func compiledTells(t *testing.T, f impl.Filter, b string) bool {
	t.Helper()
	want, _ := wantCompiled(f)
	p, ok := impl.CompileFilter(f)
	if !sameProgram(p, want) || !ok || !impl.GoodProgram(p) {
		t.Fatalf("CompileFilter(%v) = %v, %v; want %v", f, p, ok, want)
	}
	matches, okMatches := impl.Matches(f, b)
	most, okMost := impl.StepsOf(p)
	is, steps, ok := impl.RunProgram(p, b)
	if is != matches || !okMatches || !ok || !okMost || steps < 1 || steps > most {
		t.Fatalf("RunProgram(%v, %x) = %v, %d, %v; the filter tells %v, %v", p, b, is, steps, ok, matches, okMatches)
	}
	if isWant, stepsWant, _ := wantRun(p, b); is != isWant || steps != stepsWant {
		t.Fatalf("RunProgram(%v, %x) = %v, %d; want %v, %d", p, b, is, steps, isWant, stepsWant)
	}
	better, ok := impl.PeepholeOf(p)
	fewer, stepsFewer, okFewer := impl.RunProgram(better, b)
	if !ok || !okFewer || fewer != matches || stepsFewer > steps {
		t.Fatalf("PeepholeOf(%v) tells %v, %d, %v of %x; the filter %v", p, fewer, stepsFewer, okFewer, b, matches)
	}
	return is
}

func TestAFiltersProgramTellsWhatItTells(t *testing.T) {
	source := rand.New(rand.NewSource(81))
	for _, f := range goodFilters() {
		for range 20 {
			compiledTells(t, f, randomFew(source))
		}
		compiledTells(t, f, "")
		compiledTells(t, f, allFields())
	}
	told := map[bool]int{}
	for range 20000 {
		f := randomFilter(source, 1+source.Intn(20))
		told[compiledTells(t, f, randomFew(source))]++
	}
	if told[true] < 5000 || told[false] < 5000 {
		t.Error("too few of a kind:", told)
	}
}

// better holds what a program made better is.
func better(t *testing.T, text, want string) {
	t.Helper()
	if got, ok := impl.PeepholeOf(program(text)); !sameProgram(got, program(want)) || !ok {
		t.Errorf("PeepholeOf(%s) = %v, %v; want %s", text, got, ok, want)
	}
	if !impl.GoodProgram(program(text)) || !impl.GoodProgram(program(want)) {
		t.Errorf("no test: %s, %s", text, want)
	}
}

func TestPeepholeOfNothingToMakeBetter(t *testing.T) {
	for _, text := range []string{
		"e", "f e", "s1 e", "t? e", "j0@1 e", "f s1 f e", "f t? f e", "f j0@2 f e", "s1 t? e", "s1 s1 e", "s1 s1 t? e", "t? t? e", "s1 t? t? s1 t? e",
		"s1 t? j0@5 s2 t? e", "s1 t? j0@5 s1 t? e", "s1 f s1 e", "t? s1 t? e", "s1 t? f s1 t? e", "j0@1 j1@3 f e", "j0@3 j0@3 f e",
		"j0@2 f j1@4 f e", "j0@1 f e", "f s1 t? f e", "s1 t? s2 t? s1 t? e",
	} {
		better(t, text, text)
	}
}

func TestPeepholeDropsTwoFlips(t *testing.T) {
	for text, want := range map[string]string{
		"f f e": "e", "s1 f f e": "s1 e", "f f s1 e": "s1 e", "s1 f f t? e": "s1 t? e", "s1 t? f f f e": "s1 t? f e",
		// Three, four, and more in a row.
		"f f f e": "f e", "f f f f e": "e", "f f f f f e": "f e", "f f s1 f f e": "s1 e", "f s1 f f e": "f s1 e", "f f s1 f e": "s1 f e",
		// A jump to the second: they stay. It may come from anywhere ahead.
		"j0@2 f f e": "j0@2 f f e", "j1@2 f f e": "j1@2 f f e", "s1 t? j1@4 f f e": "s1 t? j1@4 f f e", "j0@4 s1 t? f f e": "j0@4 s1 t? f f e",
		// A jump to the first leads to what is behind both.
		"j0@1 f f e": "j0@1 e", "j1@1 f f s1 e": "j1@1 s1 e", "j0@2 s1 f f t? e": "j0@2 s1 t? e", "j0@3 j1@3 s1 f f t? e": "j0@3 j1@3 s1 t? e",
		// A jump to the first and one to the second.
		"j0@2 j1@3 f f e": "j0@2 j1@3 f f e", "j0@3 j1@2 f f e": "j0@3 j1@2 f f e",
		// A jump over both, to just behind them and to the end; a jump that is behind them.
		"j0@3 f f e": "j0@1 e", "j1@3 f f s1 e": "j1@1 s1 e", "j0@4 f f s1 e": "j0@2 s1 e", "f f j0@4 f e": "j0@2 f e", "f f j0@3 e": "j0@1 e",
		"j0@6 f f s1 f f e": "j0@2 s1 e", "j0@5 f f j1@5 s1 e": "j0@3 j1@3 s1 e",
		// Three: the jump to the first, to the second (then the last two go), to the third.
		"j0@1 f f f e": "j0@1 f e", "j0@2 f f f e": "j0@2 f e", "j0@3 f f f e": "j0@1 f e", "j0@4 f f f e": "j0@2 f e",
		// Four: to each of them, and behind.
		"j0@1 f f f f e": "j0@1 e", "j0@2 f f f f e": "j0@2 f f e", "j0@3 f f f f e": "j0@1 e", "j0@4 f f f f e": "j0@2 f f e", "j0@5 f f f f e": "j0@1 e",
		// Jumps to two of three and of four.
		"j0@2 j1@3 f f f e": "j0@2 j1@3 f e", "j0@3 j1@4 f f f e": "j0@3 j1@4 f f f e", "j0@2 j1@4 f f f e": "j0@2 j1@2 f e",
		"j0@3 j1@5 f f f f e": "j0@3 j1@3 f f e", "j0@4 j1@5 f f f f e": "j0@2 j1@3 f f e", "j0@2 j1@4 f f f f e": "j0@2 j1@2 e",
		"j0@3 j1@4 f f f f e": "j0@3 j1@4 f f e", "j0@3 j1@4 f f f f f e": "j0@3 j1@4 f f f e",
		// A jump to them and one over them.
		"j0@2 j1@4 f f e": "j0@2 j1@2 e", "j0@3 j1@4 f f e": "j0@3 j1@4 f f e", "j0@2 j1@5 f f s1 e": "j0@2 j1@3 s1 e",
		// Not side by side.
		"f s1 f e": "f s1 f e", "f j1@2 f e": "f j1@2 f e",
		// Two that come together only when others go.
		"j0@3 f f f j1@6 f e": "j0@1 f j1@4 f e", "f j0@2 f f f e": "f j0@2 f e",
	} {
		better(t, text, want)
	}
	if got, ok := impl.PeepholeOf(flipsOf(60)); !sameProgram(got, program("f e")) || !ok {
		t.Error("of 59 flips:", got, ok)
	}
	if got, ok := impl.PeepholeOf(flipsOf(59)); !sameProgram(got, program("e")) || !ok {
		t.Error("of 58 flips:", got, ok)
	}
}

func TestPeepholeLeadsJumpsOn(t *testing.T) {
	for text, want := range map[string]string{
		// To one of the same Num, and of the other.
		"j0@2 f j0@4 f e": "j0@4 f j0@4 f e", "j1@2 f j1@4 f e": "j1@4 f j1@4 f e",
		"j0@2 f j1@4 f e": "j0@2 f j1@4 f e", "j1@2 f j0@4 f e": "j1@2 f j0@4 f e",
		"j0@1 j0@2 e": "j0@2 j0@2 e", "j0@1 j1@2 e": "j0@1 j1@2 e", "j1@1 j1@3 f e": "j1@3 j1@3 f e", "j0@1 j1@3 f e": "j0@1 j1@3 f e",
		// Chains of these: led on to their end, or up to where the Num is the other.
		"j0@2 f j0@4 f j0@6 f e": "j0@6 f j0@6 f j0@6 f e", "j1@2 f j1@4 f j1@6 f e": "j1@6 f j1@6 f j1@6 f e",
		"j0@2 f j0@4 f j1@6 f e": "j0@4 f j0@4 f j1@6 f e", "j0@2 f j1@4 f j1@6 f e": "j0@2 f j1@6 f j1@6 f e",
		"j0@2 f j1@4 f j0@6 f e": "j0@2 f j1@4 f j0@6 f e", "j1@2 f j0@4 f j0@6 f e": "j1@2 f j0@6 f j0@6 f e",
		"j0@1 j0@2 j0@3 j0@4 e": "j0@4 j0@4 j0@4 j0@4 e", "j0@1 j0@2 j1@3 j0@4 e": "j0@2 j0@2 j1@3 j0@4 e",
		"j0@1 j0@2 j1@3 j1@4 e": "j0@2 j0@2 j1@4 j1@4 e",
		// Two to one, and one past another.
		"j0@3 j0@3 f j0@5 f e": "j0@5 j0@5 f j0@5 f e", "j0@3 j1@3 f j0@5 f e": "j0@5 j1@3 f j0@5 f e", "j0@3 j1@3 f j1@5 f e": "j0@3 j1@5 f j1@5 f e",
		"j0@4 j0@3 f s1 j0@6 f e": "j0@6 j0@3 f s1 j0@6 f e", "s1 t? j0@5 s2 t? j0@8 s3 t? e": "s1 t? j0@8 s2 t? j0@8 s3 t? e",
		"s1 t? j1@5 s2 t? j0@8 s3 t? e": "s1 t? j1@5 s2 t? j0@8 s3 t? e", "s1 t? j1@5 s2 t? j1@8 s3 t? j1@11 s4 t? e": "s1 t? j1@11 s2 t? j1@11 s3 t? j1@11 s4 t? e",
		// To what is no jump: as it is, also to an end that is at once behind.
		"j0@3 f s1 f e": "j0@3 f s1 f e", "j0@2 f e": "j0@2 f e", "j0@2 f s1 e": "j0@2 f s1 e", "j1@2 f t? e": "j1@2 f t? e",
	} {
		better(t, text, want)
	}
	got, ok := impl.PeepholeOf(jumpsOf(60))
	for at, in := range got.Instrs {
		if at < 59 && in != instr("j0@59") {
			t.Error("of 59 jumps:", at, in)
		}
	}
	if len(got.Instrs) != 60 || !ok {
		t.Error("of 59 jumps:", got, ok)
	}
}

func TestPeepholeDropsASeek(t *testing.T) {
	for text, want := range map[string]string{
		"s1 t? s1 e": "s1 t? e", "s1 t? s1 t=5 e": "s1 t? t=5 e", "s30 t^a s30 t^b e": "s30 t^a t^b e", "s1 t<3 s1 f e": "s1 t<3 f e",
		// Of another No.
		"s1 t? s2 t? e": "s1 t? s2 t? e", "s2 t? s1 t? e": "s2 t? s1 t? e", "s1 t=2 s2 t=1 e": "s1 t=2 s2 t=1 e",
		// Not at once behind.
		"s1 s1 t? e": "s1 s1 t? e", "s1 t? f s1 e": "s1 t? f s1 e", "s1 f t? s1 e": "s1 f t? s1 e", "s1 t? t? s1 e": "s1 t? t? s1 e",
		"s1 t? j0@3 s1 e": "s1 t? j0@3 s1 e", "t? s1 t? e": "t? s1 t? e", "s1 f s1 e": "s1 f s1 e", "s1 j0@2 s1 e": "s1 j0@2 s1 e",
		// The first three go first: then the fourth and fifth are no more behind a CodeSeek.
		"s1 t? s1 t? s1 e": "s1 t? t? s1 e", "s1 t? s1 t=1 s1 t=2 e": "s1 t? t=1 s1 t=2 e", "s1 t? s1 t? s1 t? s1 e": "s1 t? t? s1 t? e",
		"s1 t? s1 t? s1 t? s1 t? s1 e": "s1 t? t? s1 t? t? s1 e",
		"s1 t? s1 t? s2 t? s2 e":       "s1 t? t? s2 t? e", "s1 t? s2 t? s2 e": "s1 t? s2 t? e", "s2 t? s1 t? s1 t? e": "s2 t? s1 t? t? e",
		// A jump to the CodeTest, to the later CodeSeek: it stays.
		"j0@2 s1 t? s1 e": "j0@2 s1 t? s1 e", "j1@3 s1 t? s1 t=1 e": "j1@3 s1 t? s1 t=1 e", "j0@2 j1@3 s1 t? s1 e": "j0@2 j1@3 s1 t? s1 e",
		"j0@2 j1@4 s1 t? s1 e": "j0@2 j1@4 s1 t? s1 e", "j0@3 j1@2 s1 t? s1 e": "j0@3 j1@2 s1 t? s1 e",
		"j0@4 j1@2 s1 t? s1 e": "j0@4 j1@2 s1 t? s1 e", "j0@2 j1@5 s1 t? s1 e": "j0@2 j1@4 s1 t? e", "j0@2 j1@2 s1 t? s1 e": "j0@2 j1@2 s1 t? e",
		// A jump to the earlier one, and to what is behind.
		"j0@1 s1 t? s1 e": "j0@1 s1 t? e", "j0@1 s1 t? s1 t=1 e": "j0@1 s1 t? t=1 e", "j0@4 s1 t? s1 e": "j0@3 s1 t? e", "j1@4 s1 t? s1 t=1 e": "j1@3 s1 t? t=1 e",
		"j1@5 s1 t? s1 t=1 e": "j1@4 s1 t? t=1 e", "j0@5 j1@6 s1 t? s1 t=1 f e": "j0@4 j1@5 s1 t? t=1 f e",
		// A jump behind.
		"s1 t? s1 j0@5 f e": "s1 t? j0@4 f e", "s1 t? s1 t=1 j1@5 e": "s1 t? t=1 j1@4 e",
		// Where the first three stay, the next three may go.
		"j0@2 s1 t? s1 t=1 s1 e": "j0@2 s1 t? s1 t=1 e", "j0@3 s1 t? s1 t=1 s1 e": "j0@3 s1 t? s1 t=1 e", "j0@4 s1 t? s1 t=1 s1 e": "j0@3 s1 t? t=1 s1 e",
		"j0@5 s1 t? s1 t=1 s1 e": "j0@4 s1 t? t=1 s1 e",
	} {
		better(t, text, want)
	}
}

func TestPeepholeByAllRules(t *testing.T) {
	for text, want := range map[string]string{
		// Flips that go bring the CodeSeek behind the CodeTest, the CodeTest behind the CodeSeek.
		"s1 t? f f s1 e": "s1 t? e", "s1 f f t? s1 e": "s1 t? e", "s1 f f t? f f s1 t=1 e": "s1 t? t=1 e", "s1 t? f f s2 e": "s1 t? s2 e",
		// A jump to the flips then leads to the CodeSeek, or the CodeTest, which so stays.
		"j0@3 s1 t? f f s1 e": "j0@3 s1 t? s1 e", "j0@2 s1 f f t? s1 e": "j0@2 s1 t? s1 e", "j0@4 s1 t? f f s1 e": "j0@4 s1 t? f f s1 e",
		"j0@5 s1 t? f f s1 e": "j0@3 s1 t? s1 e", "j0@6 s1 t? f f s1 e": "j0@3 s1 t? e",
		// A jump to flips that go leads to a jump, and so on.
		"j0@1 f f j0@5 f e": "j0@3 j0@3 f e", "j0@2 s1 f f j0@6 f e": "j0@4 s1 j0@4 f e", "j0@2 s1 f f j1@6 f e": "j0@2 s1 j1@4 f e",
		"j1@2 s1 f f j1@6 f s2 e": "j1@4 s1 j1@4 f s2 e", "j0@3 f f j0@5 f e": "j0@3 j0@3 f e",
		// What is led on does not free what it led past.
		"j0@2 f j0@4 f f e": "j0@4 f j0@4 f f e", "j0@2 s1 j0@4 f f e": "j0@4 s1 j0@4 f f e", "j0@2 s1 j0@3 f f e": "j0@3 s1 j0@3 e",
		"j0@2 s1 j0@5 s1 t? s1 e": "j0@5 s1 j0@5 s1 t? s1 e", "j0@2 s1 j0@3 s1 t? s1 e": "j0@3 s1 j0@3 s1 t? e",
		// All three in one.
		"s1 t? s1 t=1 f f j0@8 f j0@10 f e": "s1 t? t=1 j0@7 f j0@7 f e",
		"j0@3 f f j0@6 s1 t? s1 t=1 e":      "j0@4 j0@4 s1 t? s1 t=1 e", "j0@3 f f j0@7 s1 t? s1 t=1 e": "j0@4 j0@4 s1 t? t=1 e",
		"j0@3 f f j0@8 s1 t? s1 t=1 e": "j0@5 j0@5 s1 t? t=1 e",
		"f f s1 t? f f s1 t? f f e":    "s1 t? t? e", "f f j1@5 s1 f j1@7 f e": "j1@5 s1 f j1@5 f e",
		"s1 t=2 j1@5 s2 t? f f j1@10 s2 t? e": "s1 t=2 j1@8 s2 t? j1@8 s2 t? e",
		"s1 t? f f s1 t? f f s1 t? e":         "s1 t? t? s1 t? e",
	} {
		better(t, text, want)
	}
}

func TestPeepholeOfCompiledFilters(t *testing.T) {
	for text, want := range map[string]string{
		"1?": "s1 t? e", "!1?": "s1 t? f e", "!!1?": "s1 t? e", "!!!1?": "s1 t? f e", "(1?&2?)": "s1 t? j0@5 s2 t? e", "(1?&1?)": "s1 t? j0@5 s1 t? e",
		"(!!1?&!!2?)": "s1 t? j0@5 s2 t? e", "((1?&2?)&3?)": "s1 t? j0@8 s2 t? j0@8 s3 t? e", "((1?|2?)&3?)": "s1 t? j1@5 s2 t? j0@8 s3 t? e",
		"(!!(1?|2?)|3?)": "s1 t? j1@8 s2 t? j1@8 s3 t? e", "(!(1?|2?)|3?)": "s1 t? j1@5 s2 t? f j1@9 s3 t? e",
		// The jump of what is within leads to the first flip, of (1?|!2?) to behind its own one.
		"!!(1?|2?)": "s1 t? j1@5 s2 t? e", "!(1?|!2?)": "s1 t? j1@6 s2 t? f f e", "!!(1?|!2?)": "s1 t? j1@6 s2 t? f e",
	} {
		p, ok := impl.CompileFilter(filter(text))
		if got, okBetter := impl.PeepholeOf(p); !sameProgram(got, program(want)) || !ok || !okBetter {
			t.Errorf("PeepholeOf of %s = %v, %v; want %s", text, got, okBetter, want)
		}
	}
}

// fewFields are bytes by which small programs go all their ways.
func fewFields() []string {
	return []string{
		"", wireOf(number(1, 0)), wireOf(data(2, "")), wireOf(number(1, 0), data(2, "")), wireOf(number(1, 1), number(2, 0)),
		wireOf(data(1, "h"), number(2, 1), data(30, "he")),
	}
}

// betterTells holds what promise 8 says of a good program that is made better.
func betterTells(t *testing.T, p impl.Program, fields []string) [3]int {
	t.Helper()
	want, used := wantBetter(p)
	q, ok := impl.PeepholeOf(p)
	if !sameProgram(q, want) || !ok {
		t.Fatalf("PeepholeOf(%v) = %v, %v; want %v", p, q, ok, want)
	}
	if !impl.GoodProgram(q) || len(q.Instrs) > len(p.Instrs) {
		t.Fatalf("PeepholeOf(%v) = %v: is it good, and no longer?", p, q)
	}
	if again, ok := impl.PeepholeOf(q); !sameProgram(again, q) || !ok {
		t.Fatalf("PeepholeOf(%v), once more = %v, %v", q, again, ok)
	}
	for _, b := range fields {
		is, steps, ok := impl.RunProgram(p, b)
		fewer, stepsFewer, okFewer := impl.RunProgram(q, b)
		if is != fewer || stepsFewer > steps || stepsFewer < 1 || !ok || !okFewer {
			t.Fatalf("of %x: %v tells %v, %d, %v; made better %v tells %v, %d, %v", b, p, is, steps, ok, q, fewer, stepsFewer, okFewer)
		}
		if isWant, stepsWant, _ := wantRun(p, b); is != isWant || steps != stepsWant || steps > len(p.Instrs) {
			t.Fatalf("RunProgram(%v, %x) = %v, %d; want %v, %d", p, b, is, steps, isWant, stepsWant)
		}
	}
	return used
}

// All programs of at most six instructions: two Nos, one test, jumps of both Nums to anywhere behind.
func TestAllSmallPrograms(t *testing.T) {
	fields := fewFields()[:4]
	var used [3]int
	all := 0
	var fill func(l []impl.Instr, many int)
	fill = func(l []impl.Instr, many int) {
		if len(l) == many-1 {
			all++
			for i, n := range betterTells(t, instrs(append(slices.Clone(l), instr("e"))...), fields) {
				used[i] += n
			}
			return
		}
		at := len(l)
		for _, word := range []string{"s1", "s2", "t?", "f"} {
			fill(append(l[:at:at], instr(word)), many)
		}
		for to := at + 1; to < many; to++ {
			fill(append(l[:at:at], impl.Instr{Code: impl.CodeJump, To: to}), many)
			fill(append(l[:at:at], impl.Instr{Code: impl.CodeJump, Num: 1, To: to}), many)
		}
	}
	for many := 1; many <= 6; many++ {
		fill(nil, many)
	}
	// Of one instruction 1, of two 6, of three 8 * 6, and so on.
	if all != 1+6*(1+8*(1+10*(1+12*(1+14)))) {
		t.Error("of all small programs:", all)
	}
	if used[0] < 1000 || used[1] < 1000 || used[2] < 100 {
		t.Error("the rules were used too seldom:", used)
	}
}

func TestManyProgramsMadeBetter(t *testing.T) {
	source := rand.New(rand.NewSource(82))
	var used [3]int
	for _, p := range goodPrograms() {
		betterTells(t, p, fewFields())
	}
	for range 20000 {
		p := randomProgram(source, 1+source.Intn(60))
		if !wantGoodProgram(p) || !impl.GoodProgram(p) {
			t.Fatalf("no test: %v is not good", p)
		}
		for i, n := range betterTells(t, p, []string{"", randomFew(source), randomFew(source)}) {
			used[i] += n
		}
	}
	if used[0] < 20000 || used[1] < 5000 || used[2] < 5000 {
		t.Error("the rules were used too seldom:", used)
	}
}

// nearlyGoodProgram is the program with one instruction changed, left out, or put in.
func nearlyGoodProgram(source *rand.Rand, p impl.Program) impl.Program {
	l := slices.Clone(p.Instrs)
	at := source.Intn(len(l))
	switch source.Intn(9) {
	case 0:
		l[at].Code += source.Intn(5) - 2
	case 1:
		l[at].Kind += source.Intn(3) - 1
	case 2:
		l[at].No = []int{0, 1, 30, 31, -1}[source.Intn(5)]
	case 3:
		l[at].Num = []int{0, 1, 2, -1, impl.MaxNumber, impl.MaxNumber + 1, -impl.MaxNumber, -impl.MaxNumber - 1}[source.Intn(8)]
	case 4:
		l[at].Text = strings.Repeat("x", []int{0, 1, 30, 31}[source.Intn(4)])
	case 5:
		l[at].To += source.Intn(5) - 2
	case 6:
		l = slices.Delete(l, at, at+1)
	case 7:
		l = slices.Insert(l, at, instr([]string{"f", "e", "s1", "t?", "j0@5"}[source.Intn(5)]))
	case 8:
		other := source.Intn(len(l))
		l[at], l[other] = l[other], l[at]
	}
	return impl.Program{Instrs: l}
}

func TestProgramsNearlyGood(t *testing.T) {
	source := rand.New(rand.NewSource(83))
	good := map[bool]int{}
	for range 30000 {
		many := 1 + source.Intn(60)
		if source.Intn(2) == 0 {
			many = 1 + source.Intn(6)
		}
		p := nearlyGoodProgram(source, randomProgram(source, many))
		want := wantGoodProgram(p)
		if impl.GoodProgram(p) != want {
			t.Fatalf("GoodProgram(%v) is not %v", p, want)
		}
		if steps, ok := impl.StepsOf(p); ok != want || ok && steps != len(p.Instrs) || !ok && steps != 0 {
			t.Fatalf("StepsOf(%v) = %d, %v", p, steps, ok)
		}
		good[want]++
	}
	if good[true] < 5000 || good[false] < 5000 {
		t.Error("too few of a kind:", good)
	}
}
