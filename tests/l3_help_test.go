package tests

import (
	"math/rand"
	"regexp"
	"slices"
	"strconv"
	"strings"

	"loop.example/g00333/impl"
)

// A rule tells from a place all places at which what it reads may end. The farthest place at which a byte was
// asked for in vain is kept: each rule can be gone on with to an end, so that is the first byte that cannot
// stand there.
type textTry struct {
	text string
	far  int
}

type rule func(x *textTry, at int) []int

func oneOf(marks string) rule {
	return func(x *textTry, at int) []int {
		if at < len(x.text) && strings.IndexByte(marks, x.text[at]) >= 0 {
			return []int{at + 1}
		}
		x.far = max(x.far, at)
		return nil
	}
}

func inTurn(rules ...rule) rule {
	return func(x *textTry, at int) []int {
		ends := []int{at}
		for _, r := range rules {
			var next []int
			for _, end := range ends {
				next = append(next, r(x, end)...)
			}
			slices.Sort(next)
			ends = slices.Compact(next)
		}
		return ends
	}
}

func either(rules ...rule) rule {
	return func(x *textTry, at int) []int {
		var ends []int
		for _, r := range rules {
			ends = append(ends, r(x, at)...)
		}
		slices.Sort(ends)
		return slices.Compact(ends)
	}
}

// times: from least to most times, all of them.
func times(least, most int, r rule) rule {
	return func(x *textTry, at int) []int {
		var all []int
		ends := []int{at}
		for n := 0; len(ends) > 0; n++ {
			if n >= least {
				all = append(all, ends...)
			}
			if n == most {
				break
			}
			var next []int
			for _, end := range ends {
				next = append(next, r(x, end)...)
			}
			ends = next
		}
		slices.Sort(all)
		return slices.Compact(all)
	}
}

func atEnd(x *textTry, at int) []int {
	if at == len(x.text) {
		return []int{at}
	}
	x.far = max(x.far, at)
	return nil
}

func wordOf(word string) rule {
	var letters []rule
	for i := range len(word) {
		letters = append(letters, oneOf(word[i:i+1]))
	}
	return inTurn(letters...)
}

const lowerLetters = "abcdefghijklmnopqrstuvwxyz"

// schemaRule is the document's grammar, with none of what makes a schema good.
func schemaRule() rule {
	blank := oneOf(" \n")
	gap := times(0, 500, blank)
	apart := times(1, 500, blank)
	name := times(1, 10, oneOf(lowerLetters))
	figure := either(oneOf("0"), inTurn(oneOf("123456789"), times(0, 1, oneOf("0123456789"))))
	var message, list rule
	byLetter := either(wordOf("num"), wordOf("text"),
		inTurn(wordOf("enum"), gap, oneOf("("), gap, figure, gap, oneOf(")")))
	byMark := func(x *textTry, at int) []int { return either(message, list)(x, at) }
	part := inTurn(name, gap, oneOf(":"), gap, figure, times(0, 1, inTurn(gap, oneOf("!"))),
		either(inTurn(gap, byMark), inTurn(apart, byLetter)), gap)
	more := inTurn(oneOf(","), gap, part)
	message = inTurn(oneOf("{"), gap, times(0, 1, inTurn(part, times(0, 500, more))), oneOf("}"))
	list = inTurn(oneOf("["), gap, either(byLetter, byMark), gap, oneOf("]"))
	return inTurn(gap, message, gap, atEnd)
}

var numberInText = regexp.MustCompile(`:([0-9]+!?)`)

// wantRead takes all blanks away from what the grammar takes, and puts the one that must be.
func wantRead(text string) (impl.Schema, int, bool) {
	if len(text) > 400 {
		return impl.Schema{}, 0, false
	}
	x := &textTry{text: text}
	if len(schemaRule()(x, 0)) == 0 {
		return impl.Schema{}, x.far, false
	}
	tight := strings.NewReplacer(" ", "", "\n", "").Replace(text)
	s := schema(numberInText.ReplaceAllString(tight, ":$1 "))
	if len(s.Types) > 30 {
		return impl.Schema{}, len(text), false
	}
	s = byNo(s)
	if !wantGood(s) {
		return impl.Schema{}, len(text), false
	}
	return s, 0, true
}

// byNo sorts all types at once by the Nos that lead to them; where two are alike the first stays ahead.
func byNo(s impl.Schema) impl.Schema {
	ways := make([]string, len(s.Types))
	for k, t := range s.Types {
		if k > 0 {
			ways[k] = ways[t.Up] + string([]byte{byte(t.No), byte(k)})
		}
	}
	sorted := slices.Sorted(slices.Values(ways))
	l := make([]impl.Type, len(s.Types))
	for k, t := range s.Types {
		if k > 0 {
			t.Up = slices.Index(sorted, ways[t.Up])
		}
		l[slices.Index(sorted, ways[k])] = t
	}
	return impl.Schema{Types: l}
}

// wantText goes over the list of a good schema's types as it stands, closing what has ended.
func wantText(s impl.Schema) string {
	var b strings.Builder
	var ends []string
	var open []int
	closeDownTo := func(up int) {
		for len(open) > 0 && open[len(open)-1] != up {
			b.WriteString(ends[len(ends)-1])
			open, ends = open[:len(open)-1], ends[:len(ends)-1]
		}
	}
	for k, t := range s.Types {
		closeDownTo(t.Up)
		if k > 0 && s.Types[t.Up].Kind == impl.TypeMessage {
			if k > t.Up+1 {
				b.WriteString(",")
			}
			b.WriteString(t.Name + ":" + strconv.Itoa(t.No))
			if t.Must {
				b.WriteString("!")
			}
			b.WriteString(" ")
		}
		word := []string{"", "num", "text", "enum(" + strconv.Itoa(t.Most) + ")", "[", "{"}[t.Kind]
		b.WriteString(word)
		if t.Kind >= impl.TypeList {
			open, ends = append(open, k), append(ends, []string{"]", "}"}[t.Kind-impl.TypeList])
		}
	}
	closeDownTo(-2)
	return b.String()
}

var textToken = regexp.MustCompile(`[a-z]+|[0-9]+|[^a-z0-9 \n]`)

func needsBlank(token, next string) bool {
	behindNo := token == "!" || token[0] >= '0' && token[0] <= '9'
	return behindNo && next[0] >= 'a' && next[0] <= 'z'
}

// spread puts what gap tells ahead of each token, and behind the last one.
func spread(tokens []string, gap func(must bool) string) string {
	var b strings.Builder
	for i, token := range tokens {
		b.WriteString(gap(i > 0 && needsBlank(tokens[i-1], token)))
		b.WriteString(token)
	}
	b.WriteString(gap(false))
	return b.String()
}

// tokensInAnyOrder: the tokens of a type's text, the parts of each message in any order.
func tokensInAnyOrder(source *rand.Rand, s impl.Schema, k int) []string {
	switch s.Types[k].Kind {
	case impl.TypeNumber:
		return []string{"num"}
	case impl.TypeText:
		return []string{"text"}
	case impl.TypeEnum:
		return []string{"enum", "(", strconv.Itoa(s.Types[k].Most), ")"}
	case impl.TypeList:
		return slices.Concat([]string{"["}, tokensInAnyOrder(source, s, k+1), []string{"]"})
	}
	tokens := []string{"{"}
	var own []int
	for i, t := range s.Types {
		if t.Up == k {
			own = append(own, i)
		}
	}
	for i, at := range source.Perm(len(own)) {
		t := s.Types[own[at]]
		if i > 0 {
			tokens = append(tokens, ",")
		}
		tokens = append(tokens, t.Name, ":", strconv.Itoa(t.No))
		if t.Must {
			tokens = append(tokens, "!")
		}
		tokens = append(tokens, tokensInAnyOrder(source, s, own[at])...)
	}
	return append(tokens, "}")
}

func randomGap(source *rand.Rand, often int) func(must bool) string {
	return func(must bool) string {
		gaps := []string{" ", "\n", "  ", " \n", "\n "}
		if must || source.Intn(often) == 0 {
			return gaps[source.Intn(len(gaps))]
		}
		return ""
	}
}

// tidyTextOf is a tidy text of that many bytes, at least some 50, the first part of one type, all others of
// another one.
func tidyTextOf(first, others string, bytes int) string {
	var parts []string
	length := 1
	for typ := first; length < bytes; typ = others {
		no := len(parts) + 1
		name := string([]byte{byte('a' + no%26)}) + strings.Repeat("x", 8) + string([]byte{byte('a' + no/26)})
		parts = append(parts, name+":"+strconv.Itoa(no)+"! "+typ)
		length += len(parts[no-1]) + 1
	}
	// Names are told apart by their first and last letter: one between these may go.
	for i := 0; length > bytes; i = (i + 1) % len(parts) {
		name, rest, _ := strings.Cut(parts[i], ":")
		parts[i] = name[:1] + name[2:] + ":" + rest
		length--
	}
	return "{" + strings.Join(parts, ",") + "}"
}
