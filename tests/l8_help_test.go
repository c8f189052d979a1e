package tests

import (
	"math/rand"
	"slices"
	"strconv"
	"strings"

	"loop.example/g00333/impl"
)

// program reads words: s3 (seek No 3), t=5, t<5, t>5, t?, t^he (tests), j0@7, j1@7 (jumps to instruction 7), f
// (flip), e (end). It does not ask whether the program is a good one, so that wrong ones can be written too.
func program(text string) impl.Program {
	var p impl.Program
	for _, word := range strings.Fields(text) {
		p.Instrs = append(p.Instrs, instr(word))
	}
	return p
}

func instr(word string) impl.Instr {
	code := 1 + strings.IndexByte("stjfe", word[0])
	rest := word[1:]
	switch word[0] {
	case 's':
		return impl.Instr{Code: code, No: decimal(rest)}
	case 't':
		in := impl.Instr{Code: code, Kind: strings.IndexByte(" =<>?^", rest[0])}
		if rest[0] == '^' {
			in.Text = rest[1:]
		} else if rest[0] != '?' {
			in.Num = decimal(rest[1:])
		}
		return in
	case 'j':
		num, to, _ := strings.Cut(rest, "@")
		return impl.Instr{Code: code, Num: decimal(num), To: decimal(to)}
	case 'f', 'e':
		return impl.Instr{Code: code}
	}
	panic("no instruction: " + word)
}

func decimal(text string) int {
	n, err := strconv.Atoi(text)
	if err != nil {
		panic(err)
	}
	return n
}

func instrs(l ...impl.Instr) impl.Program {
	return impl.Program{Instrs: l}
}

func sameProgram(p, q impl.Program) bool {
	return slices.Equal(p.Instrs, q.Instrs)
}

// wantGoodProgram goes from the back, where CodeEnd must be.
func wantGoodProgram(p impl.Program) bool {
	many := len(p.Instrs)
	if many == 0 || many >= 61 || p.Instrs[many-1] != instr("e") {
		return false
	}
	for behind := 1; behind < many; behind++ {
		at := many - 1 - behind
		if !wantGoodInstr(p.Instrs[at], at, behind) {
			return false
		}
	}
	return true
}

// wantGoodInstr takes one that is not the last, and how many are behind it. It strikes out what is as said.
func wantGoodInstr(in impl.Instr, at, behind int) bool {
	switch {
	case in.Code == 1 && slices.Contains(allNos(), in.No):
		in.No = 0
	case in.Code == 2 && in.Kind < 6:
		if _, good := wantWish(wants(impl.Want{Kind: in.Kind, No: 7, Num: in.Num, Text: in.Text})); !good {
			return false
		}
		in.Kind, in.Num, in.Text = 0, 0, ""
	case in.Code == 3 && (in.Num == 0 || in.Num == 1):
		for by := 1; by <= behind; by++ {
			if in.To == at+by {
				in.Num, in.To = 0, 0
				return in == impl.Instr{Code: 3}
			}
		}
		return false
	case in.Code != 4:
		return false
	}
	return in == impl.Instr{Code: in.Code}
}

// wantCode is the instructions of a want, To being counted from the first of them.
func wantCode(x wish) []impl.Instr {
	if x.alone() {
		w := x.want
		return []impl.Instr{{Code: 1, No: w.No}, {Code: 2, Kind: w.Kind, Num: w.Num, Text: w.Text}}
	}
	first := wantCode(x.own[0])
	if x.want.Kind == impl.WantNot {
		return append(first, instr("f"))
	}
	second := wantCode(x.own[1])
	behind := len(first) + 1 + len(second)
	num := map[int]int{impl.WantAnd: 0, impl.WantOr: 1}[x.want.Kind]
	first = append(first, impl.Instr{Code: 3, Num: num, To: behind})
	for _, in := range second {
		if in.Code == 3 {
			in.To += behind - len(second)
		}
		first = append(first, in)
	}
	return first
}

func wantCompiled(f impl.Filter) (impl.Program, bool) {
	whole, good := wantWish(f)
	if !good {
		return impl.Program{}, false
	}
	return impl.Program{Instrs: append(wantCode(whole), instr("e"))}, true
}

// wantRun asks what is left of the program to tell, from an instruction on.
func wantRun(p impl.Program, b string) (bool, int, bool) {
	by, ok := fieldBytes(b)
	if !ok || !wantGoodProgram(p) {
		return false, 0, false
	}
	is, steps := wantLeft(p.Instrs, 0, false, 0, by)
	return is, steps, true
}

// wantLeft takes as a place the field's No, or 0.
func wantLeft(l []impl.Instr, at int, flag bool, place int, by map[int]string) (bool, int) {
	in := l[at]
	next := at + 1
	switch in.Code {
	case impl.CodeSeek:
		place = 0
		if _, there := by[in.No]; there {
			place = in.No
		}
	case impl.CodeTest:
		asked := wish{want: impl.Want{Kind: in.Kind, No: place, Num: in.Num, Text: in.Text}}
		flag = place != 0 && asked.wantFound(by)
	case impl.CodeJump:
		if flag && in.Num == 1 || !flag && in.Num == 0 {
			next = in.To
		}
	case impl.CodeFlip:
		flag = !flag
	case impl.CodeEnd:
		return flag, 1
	}
	is, steps := wantLeft(l, next, flag, place, by)
	return is, steps + 1
}

// cell is an instruction that leads to another one, wherever that stands.
type cell struct {
	is    impl.Instr
	leads *cell
}

func cellsOf(p impl.Program) []*cell {
	var l []*cell
	for _, in := range p.Instrs {
		l = append(l, &cell{is: in})
	}
	for _, c := range l {
		if c.is.Code == impl.CodeJump {
			c.leads = l[c.is.To]
		}
	}
	return l
}

func programOf(l []*cell) impl.Program {
	var p impl.Program
	for _, c := range l {
		in := c.is
		if c.leads != nil {
			in.To = slices.Index(l, c.leads)
		}
		p.Instrs = append(p.Instrs, in)
	}
	return p
}

// wantBetter takes a good program. It also tells how often each rule was used.
func wantBetter(p impl.Program) (impl.Program, [3]int) {
	var used [3]int
	l := cellsOf(p)
	for {
		next, rule := betterOnce(l)
		if rule == 0 {
			return programOf(l), used
		}
		used[rule-1]++
		l = next
	}
}

// betterOnce tells also which rule it used, from 1 on, or 0.
func betterOnce(l []*cell) ([]*cell, int) {
	codes := ""
	for _, c := range l {
		codes += string(" stjfe"[c.is.Code])
	}
	for at, c := range l {
		from := codes[at:]
		switch {
		case strings.HasPrefix(from, "ff") && leading(l, l[at+1]) == nil:
			for _, jump := range leading(l, c) {
				jump.leads = l[at+2]
			}
			return slices.Concat(l[:at], l[at+2:]), 1
		case from[0] == 'j' && c.leads.leads != nil && c.leads.is.Num == c.is.Num:
			c.leads = c.leads.leads
			return l, 2
		case strings.HasPrefix(from, "sts") && c.is == l[at+2].is && leading(l, l[at+1]) == nil && leading(l, l[at+2]) == nil:
			return slices.Concat(l[:at+2], l[at+3:]), 3
		}
	}
	return l, 0
}

func leading(l []*cell, to *cell) []*cell {
	var jumps []*cell
	for _, c := range l {
		if c.leads == to {
			jumps = append(jumps, c)
		}
	}
	return jumps
}

// randomProgram is a good one of so many instructions, with much in it that can be made better: some of the
// jumps lead not far.
func randomProgram(source *rand.Rand, many int) impl.Program {
	var l []impl.Instr
	jumps := source.Intn(4)
	for at := 0; at < many-1; at++ {
		asked := randomAsking(source)
		in := impl.Instr{Code: impl.CodeTest, Kind: asked.Kind, Num: asked.Num, Text: asked.Text}
		switch n := source.Intn(7 + jumps); {
		case at >= 1 && l[at-1].Code == impl.CodeSeek && n > 0:
		case n < 4 && at >= 1 && l[at-1].Code == impl.CodeTest || n == 4:
			in = impl.Instr{Code: impl.CodeSeek, No: []int{1, 1, 1, 2, 2, 30}[source.Intn(6)]}
		case n < 7:
			in = impl.Instr{Code: impl.CodeFlip}
		default:
			far := many - 1 - at
			if source.Intn(2) == 0 {
				far = min(far, 4)
			}
			in = impl.Instr{Code: impl.CodeJump, Num: source.Intn(2), To: at + 1 + source.Intn(far)}
		}
		l = append(l, in)
	}
	return impl.Program{Instrs: append(l, instr("e"))}
}
