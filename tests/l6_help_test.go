package tests

import (
	"math/rand"
	"regexp"
	"slices"
	"strconv"
	"strings"

	"loop.example/g00333/impl"
)

// The references of this chapter take terms as texts, so that they have no cells to count.

var (
	variableText = regexp.MustCompile(`\$[0-9]`)
	cellText     = regexp.MustCompile(`\$[0-9]|[a-z]+`)
	nameText     = regexp.MustCompile(`^[a-z]{1,4}$`)
	oneTerm      = regexp.MustCompile(`(^|[(,])(\$[1-6]|[a-z]{1,4}(\(T(,T){0,4}\))?)($|[),])`)
)

// ownTexts: the Name, and the texts of the term's own terms.
func ownTexts(text string) (string, []string) {
	name, rest, _ := strings.Cut(text, "(")
	var own []string
	deep, from := 0, 0
	for at, mark := range rest {
		switch {
		case mark == '(':
			deep++
		case mark == ')' && deep > 0:
			deep--
		case (mark == ')' || mark == ',') && deep == 0:
			own = append(own, rest[from:at])
			from = at + 1
		}
	}
	return name, own
}

func isVariable(text string) bool {
	return text[0] == '$'
}

// term does not ask whether the term is a good one, so that wrong ones can be written too.
func term(text string) impl.Term {
	if isVariable(text) {
		v, err := strconv.Atoi(text[1:])
		if err != nil {
			panic(err)
		}
		return impl.Term{Cells: []impl.Cell{{Var: v}}}
	}
	name, own := ownTexts(text)
	cells := []impl.Cell{{Name: name, Many: len(own)}}
	for _, its := range own {
		cells = append(cells, term(its).Cells...)
	}
	return impl.Term{Cells: cells}
}

func terms(texts ...string) []impl.Term {
	var l []impl.Term
	for _, text := range texts {
		l = append(l, term(text))
	}
	return l
}

func sameTerm(a, b impl.Term) bool {
	return slices.Equal(a.Cells, b.Cells)
}

func sameTerms(a, b []impl.Term) bool {
	return slices.EqualFunc(a, b, sameTerm)
}

func cellsIn(text string) int {
	return len(cellText.FindAllString(text, -1))
}

// wantTermText: a good term's text. It goes from the back, where each term's own are there already.
func wantTermText(t impl.Term) (string, bool) {
	var texts []string // the last one is the first of those behind
	for _, c := range slices.Backward(t.Cells) {
		isVar := c.Var >= 1 && c.Var <= 6 && c == impl.Cell{Var: c.Var}
		isName := c.Var == 0 && nameText.MatchString(c.Name) && c.Many >= 0 && c.Many <= min(5, len(texts))
		if !isVar && !isName {
			return "", false
		}
		if isVar {
			texts = append(texts, "$"+strconv.Itoa(c.Var))
			continue
		}
		from := len(texts) - c.Many
		own := slices.Clone(texts[from:])
		slices.Reverse(own)
		text := c.Name
		if c.Many > 0 {
			text += "(" + strings.Join(own, ",") + ")"
		}
		texts = append(texts[:from], text)
	}
	if len(texts) != 1 || len(t.Cells) > 30 {
		return "", false
	}
	return texts[0], true
}

// wantIsText makes of each term whose own have been made so already a T, till the whole is one.
func wantIsText(text string) bool {
	if len(text) > 200 || strings.Contains(text, "T") {
		return false
	}
	for range 30 {
		if place := oneTerm.FindStringSubmatchIndex(text); place != nil {
			text = text[:place[4]] + "T" + text[place[5]:]
		}
	}
	return text == "T"
}

func wantApplied(text string, l []string) string {
	return variableText.ReplaceAllStringFunc(text, func(v string) string { return l[v[1]-'1'] })
}

func itself() []string {
	return []string{"$1", "$2", "$3", "$4", "$5", "$6"}
}

// substitution is itself but for what is told: "$2" and its text, and so on.
func substitution(told ...string) []string {
	l := itself()
	for at := 0; at < len(told); at += 2 {
		l[told[at][1]-'1'] = told[at+1]
	}
	return l
}

// wantUnified goes as the document tells it.
func wantUnified(a, b string) ([]string, bool, bool) {
	found, pairs := itself(), [][2]string{{a, b}}
	for len(pairs) > 0 {
		one, other := pairs[0][0], pairs[0][1]
		pairs = pairs[1:]
		if one == other {
			continue
		}
		if isVariable(one) || isVariable(other) {
			if !isVariable(one) {
				one, other = other, one
			}
			if strings.Contains(other, one) {
				return nil, false, true
			}
			longest := 0
			put := func(text string) string {
				text = strings.ReplaceAll(text, one, other)
				longest = max(longest, cellsIn(text))
				return text
			}
			for i, p := range pairs {
				pairs[i] = [2]string{put(p[0]), put(p[1])}
			}
			for i, text := range found {
				found[i] = put(text)
			}
			if longest > 30 {
				return nil, false, false
			}
			continue
		}
		nameOne, ownOne := ownTexts(one)
		nameOther, ownOther := ownTexts(other)
		if nameOne != nameOther || len(ownOne) != len(ownOther) {
			return nil, false, true
		}
		var own [][2]string
		for i := range ownOne {
			own = append(own, [2]string{ownOne[i], ownOther[i]})
		}
		pairs = append(own, pairs...)
	}
	return found, true, true
}

// wantMade tells whether terms for b's variables make it a; of these it keeps what it has found.
func wantMade(a, b string, found map[string]string) bool {
	if isVariable(b) {
		if its, there := found[b]; there {
			return its == a
		}
		found[b] = a
		return true
	}
	nameA, ownA := ownTexts(a)
	nameB, ownB := ownTexts(b)
	if nameA != nameB || len(ownA) != len(ownB) {
		return false
	}
	for i := range ownA {
		if !wantMade(ownA[i], ownB[i], found) {
			return false
		}
	}
	return true
}

// partsOfText: the term's text and those of all terms in it.
func partsOfText(text string) []string {
	l := []string{text}
	_, own := ownTexts(text)
	for _, its := range own {
		l = append(l, partsOfText(its)...)
	}
	return l
}

// randomTerm is the text of a term of so many cells, with the variables from the one to the other.
func randomTerm(source *rand.Rand, cells, from, to int) string {
	if cells == 1 {
		if from <= to && source.Intn(3) > 0 {
			return "$" + strconv.Itoa(from+source.Intn(to-from+1))
		}
		return []string{"a", "b", "abcd"}[source.Intn(3)]
	}
	many := 1 + source.Intn(min(5, cells-1))
	sizes := make([]int, many)
	for i := range sizes {
		sizes[i] = 1
	}
	for range cells - 1 - many {
		sizes[source.Intn(many)]++
	}
	var own []string
	for _, size := range sizes {
		own = append(own, randomTerm(source, size, from, to))
	}
	return []string{"f", "f", "f", "ab", "zzzz"}[source.Intn(5)] + "(" + strings.Join(own, ",") + ")"
}

// general is a term of which the substitution makes the given one: here and there a variable stands in place
// of its term.
func general(source *rand.Rand, text string, l []string) string {
	if source.Intn(3) == 0 {
		first := source.Intn(len(l))
		for i := range l {
			if v := (first + i) % len(l); l[v] == text {
				return "$" + strconv.Itoa(v+1)
			}
		}
	}
	name, own := ownTexts(text)
	if len(own) == 0 {
		return text
	}
	for i, its := range own {
		own[i] = general(source, its, l)
	}
	return name + "(" + strings.Join(own, ",") + ")"
}

// randomAlike: two terms, a substitution, and the term that it makes of both. Those of the variables that this
// one has in it stay as they are.
func randomAlike(source *rand.Rand) (string, string, []string, string) {
	staying := source.Intn(4)
	made := randomTerm(source, 1+source.Intn(30), 7-staying, 6)
	parts := partsOfText(made)
	l := itself()
	for v := range 6 - staying {
		switch source.Intn(8) {
		case 0:
			l[v] = randomTerm(source, 1+source.Intn(30), 1, 6)
		case 1: // as it is
		default:
			l[v] = parts[source.Intn(len(parts))]
		}
	}
	return general(source, made, l), general(source, made, l), l, made
}

// smallTerms is all terms of at most so many cells of a, f(..), g(..,..) and so many variables.
func smallTerms(most, vars int) []string {
	bySize := make([][]string, most+1)
	for size := 1; size <= most; size++ {
		if size == 1 {
			bySize[1] = append([]string{"a"}, itself()[:vars]...)
			continue
		}
		for _, its := range bySize[size-1] {
			bySize[size] = append(bySize[size], "f("+its+")")
		}
		for first := 1; first < size-1; first++ {
			for _, one := range bySize[first] {
				for _, other := range bySize[size-1-first] {
					bySize[size] = append(bySize[size], "g("+one+","+other+")")
				}
			}
		}
	}
	return slices.Concat(bySize...)
}

// chain is f(f(..)) of so many cells, the last one of them the given one.
func chain(cells int, last string) string {
	return strings.Repeat("f(", cells-1) + last + strings.Repeat(")", cells-1)
}
