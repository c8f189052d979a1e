package tests

import (
	"cmp"
	"math/rand"
	"slices"
	"strconv"
	"strings"

	"loop.example/g00333/impl"
)

// notation is what is left of a text in one of these tests' short notations.
type notation struct {
	text string
}

// schemaReader reads {a:1! num,b:2 [text],c:3 enum(4)}. It does not ask whether the schema is a good one, so
// that wrong ones can be written too.
type schemaReader struct {
	notation
	types []impl.Type
}

func schema(text string) impl.Schema {
	r := &schemaReader{notation: notation{text: text}}
	r.take(impl.Type{Up: -1})
	if r.text != "" {
		panic("left of a schema: " + r.text)
	}
	return impl.Schema{Types: r.types}
}

func (r *notation) has(mark string) bool {
	rest, found := strings.CutPrefix(r.text, mark)
	r.text = rest
	return found
}

func (r *notation) upTo(marks string) string {
	at := strings.IndexAny(r.text, marks)
	word := r.text[:at]
	r.text = r.text[at:]
	return word
}

func (r *notation) number(marks string) int {
	n, err := strconv.Atoi(r.upTo(marks))
	if err != nil {
		panic(err)
	}
	return n
}

func (r *schemaReader) take(t impl.Type) {
	at := len(r.types)
	r.types = append(r.types, t)
	switch {
	case r.has("num"):
		r.types[at].Kind = impl.TypeNumber
	case r.has("text"):
		r.types[at].Kind = impl.TypeText
	case r.has("enum("):
		r.types[at].Kind = impl.TypeEnum
		r.types[at].Most = r.number(")")
		r.has(")")
	case r.has("["):
		r.types[at].Kind = impl.TypeList
		if !r.has("]") {
			r.take(impl.Type{Up: at})
			r.has("]")
		}
	case r.has("{"):
		r.types[at].Kind = impl.TypeMessage
		for !r.has("}") {
			r.takePart(at)
			r.has(",")
		}
	default:
		panic("no type: " + r.text)
	}
}

func (r *schemaReader) takePart(up int) {
	t := impl.Type{Up: up, Name: r.upTo(":")}
	r.has(":")
	t.No = r.number("! ")
	t.Must = r.has("!")
	r.has(" ")
	r.take(t)
}

func sameSchema(a, b impl.Schema) bool {
	return slices.Equal(a.Types, b.Types)
}

func copyOf(s impl.Schema) impl.Schema {
	return impl.Schema{Types: slices.Clone(s.Types)}
}

// Types by their way from the whole, a byte a step, so that the order of the ways is that of the types:
// what the document says of two schemas is then said of ways alone, with no tree.
const itemStep = 1

func partStep(no int) string {
	return string([]byte{byte(100 + no)})
}

func waysIn(s impl.Schema) map[string]impl.Type {
	ways := map[string]impl.Type{}
	way := make([]string, len(s.Types))
	for k, t := range s.Types {
		if k > 0 {
			step := string([]byte{itemStep})
			if s.Types[t.Up].Kind == impl.TypeMessage {
				step = partStep(t.No)
			}
			way[k] = way[t.Up] + step
		}
		ways[way[k]] = t
	}
	return ways
}

func schemaOfWays(ways map[string]impl.Type) impl.Schema {
	var sorted []string
	for way := range ways {
		sorted = append(sorted, way)
	}
	slices.Sort(sorted)
	var s impl.Schema
	for _, way := range sorted {
		t := ways[way]
		t.Up = -1
		if way != "" {
			t.Up = slices.Index(sorted, way[:len(way)-1])
		}
		s.Types = append(s.Types, t)
	}
	return s
}

func wantSubtype(a, b impl.Schema) bool {
	inA := waysIn(a)
	for way, y := range waysIn(b) {
		x, has := inA[way]
		if !has || x.Kind != y.Kind || x.Most > y.Most || y.Must && !x.Must {
			return false
		}
	}
	return true
}

func wantMeet(a, b impl.Schema) (impl.Schema, bool) {
	met := waysIn(a)
	for way, y := range waysIn(b) {
		x, both := met[way]
		if both && x.Kind != y.Kind {
			return impl.Schema{}, false
		}
		if both {
			y.Name, y.Must, y.Most = x.Name, x.Must || y.Must, min(x.Most, y.Most)
		}
		met[way] = y
	}
	s := schemaOfWays(met)
	if !wantGood(s) {
		return impl.Schema{}, false
	}
	return s, true
}

func wantJoin(a, b impl.Schema) impl.Schema {
	inA, inB := waysIn(a), waysIn(b)
	joined := map[string]impl.Type{}
	for way, x := range inA {
		y, both := inB[way]
		if both && x.Kind == y.Kind {
			x.Must, x.Most = x.Must && y.Must, max(x.Most, y.Most)
			joined[way] = x
		}
	}
	for loose := true; loose; {
		loose = false
		for way, x := range joined {
			_, up := joined[way[:max(0, len(way)-1)]]
			_, item := joined[way+string([]byte{itemStep})]
			if !up || x.Kind == impl.TypeList && !item {
				delete(joined, way)
				loose = true
			}
		}
	}
	return schemaOfWays(joined)
}

// wantGood reads a schema from the front, as a grammar would.
func wantGood(s impl.Schema) bool {
	if len(s.Types) == 0 || len(s.Types) > 30 || s.Types[0] != (impl.Type{Kind: impl.TypeMessage, Up: -1}) {
		return false
	}
	end, ok := goodUpTo(s.Types, 0, 1)
	return ok && end == len(s.Types)
}

func goodUpTo(types []impl.Type, k, deep int) (int, bool) {
	t := types[k]
	within := t.Kind == impl.TypeList || t.Kind == impl.TypeMessage
	if t.Kind < impl.TypeNumber || t.Kind > impl.TypeMessage || within && deep > 5 {
		return 0, false
	}
	if t.Most < 0 || t.Most > 20 || t.Kind != impl.TypeEnum && t.Most != 0 {
		return 0, false
	}
	if !within {
		return k + 1, true
	}
	end, parts, lastNo := k+1, 0, 0
	names := map[string]int{}
	for end < len(types) && types[end].Up == k {
		p := types[end]
		if t.Kind == impl.TypeList && (p.Name != "" || p.No != 0 || p.Must) {
			return 0, false
		}
		if t.Kind == impl.TypeMessage {
			plain := strings.Trim(p.Name, "abcdefghijklmnopqrstuvwxyz") == "" && len(p.Name) >= 1 && len(p.Name) <= 10
			if !plain || names[p.Name] > 0 || p.No <= lastNo || p.No > 30 {
				return 0, false
			}
			names[p.Name], lastNo = 1, p.No
		}
		behind, ok := goodUpTo(types, end, deep+1)
		if !ok {
			return 0, false
		}
		end = behind
		parts++
	}
	return end, t.Kind == impl.TypeMessage || parts == 1
}

// randomSchema has at most that many types.
func randomSchema(source *rand.Rand, most int) impl.Schema {
	g := &schemaMaker{source: source, left: most - 1}
	g.types = append(g.types, impl.Type{Kind: impl.TypeMessage, Up: -1})
	g.parts(0, 1)
	return impl.Schema{Types: g.types}
}

type schemaMaker struct {
	source *rand.Rand
	left   int
	types  []impl.Type
}

func (g *schemaMaker) parts(up, deep int) {
	no := 0
	for g.left > 0 && no < 30 && g.source.Intn(6) > 0 {
		no += 1 + g.source.Intn(min(3, 30-no))
		g.add(impl.Type{Name: g.name(no), No: no, Must: g.source.Intn(2) == 0, Up: up}, deep)
	}
}

// name is one of two for each No, so that like Nos often have unlike Names, and unlike ones a like one.
func (g *schemaMaker) name(no int) string {
	if g.source.Intn(12) == 0 && no%2 == 1 {
		return "odd" + string([]byte{byte('a' + no/2)})
	}
	return strings.Repeat(string([]byte{byte('a' + no%26)}), 1+no/26*9)
}

func (g *schemaMaker) add(t impl.Type, deep int) {
	at := len(g.types)
	g.left--
	t.Kind = impl.TypeNumber + g.source.Intn(5)
	if t.Kind >= impl.TypeList && deep == impl.MaxDeep || t.Kind == impl.TypeList && g.left == 0 {
		t.Kind = impl.TypeEnum
	}
	if t.Kind == impl.TypeEnum {
		t.Most = g.source.Intn(21)
	}
	g.types = append(g.types, t)
	switch t.Kind {
	case impl.TypeList:
		g.add(impl.Type{Up: at}, deep+1)
	case impl.TypeMessage:
		g.parts(at, deep+1)
	}
}

// nearTo is a good schema that is much like the given one: most of two random ones have no kinds in common.
func nearTo(source *rand.Rand, s impl.Schema) impl.Schema {
	ways := waysIn(s)
	sorted := make([]string, 0, len(ways))
	for way := range ways {
		sorted = append(sorted, way)
	}
	slices.SortFunc(sorted, func(a, b string) int { return cmp.Compare(a, b) })
	for _, way := range sorted[1:] {
		t, there := ways[way]
		if !there || source.Intn(4) > 0 {
			continue
		}
		inMessage := way[len(way)-1] != itemStep
		switch source.Intn(5) {
		case 0:
			t.Must = inMessage && !t.Must
		case 1:
			if t.Kind == impl.TypeEnum {
				t.Most = source.Intn(21)
			}
		case 2:
			if inMessage {
				t.Name = "new" + string([]byte{byte('a' + t.No%26)})
			}
		case 3:
			if t.Kind <= impl.TypeEnum && source.Intn(3) == 0 {
				t.Kind, t.Most = impl.TypeNumber+source.Intn(2), 0
			}
		case 4:
			if inMessage {
				dropWay(ways, way)
				continue
			}
		}
		ways[way] = t
	}
	return schemaOfWays(ways)
}

func dropWay(ways map[string]impl.Type, way string) {
	for other := range ways {
		if strings.HasPrefix(other, way) {
			delete(ways, other)
		}
	}
}
