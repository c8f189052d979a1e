package tests

import (
	"encoding/binary"
	"math/rand"
	"slices"
	"strings"

	"loop.example/g00333/impl"
)

// valueReader reads {1:5,2:'text',3:[-1,2],4:{1:2}}: of each part of a message its No. It does not ask for
// a schema, so that values that fit none can be written too.
type valueReader struct {
	notation
	nodes []impl.Node
}

func value(text string) impl.Value {
	r := &valueReader{notation: notation{text: text}}
	r.take(impl.Node{Up: -1})
	if r.text != "" {
		panic("left of a value: " + r.text)
	}
	return impl.Value{Nodes: r.nodes}
}

func (r *valueReader) take(n impl.Node) {
	at := len(r.nodes)
	r.nodes = append(r.nodes, n)
	switch {
	case r.has("'"):
		r.nodes[at].Text = r.upTo("'")
		r.has("'")
	case r.has("["):
		r.nodes[at].Many = true
		for !r.has("]") {
			r.take(impl.Node{Up: at})
			r.has(",")
		}
	case r.has("{"):
		r.nodes[at].Many = true
		for !r.has("}") {
			no := r.number(":")
			r.has(":")
			r.take(impl.Node{No: no, Up: at})
			r.has(",")
		}
	default:
		r.nodes[at].Num = r.number(",]}")
	}
}

func sameValue(a, b impl.Value) bool {
	return slices.Equal(a.Nodes, b.Nodes)
}

func wireFolded(n int) string {
	return string(binary.AppendVarint(nil, int64(n)))
}

func wireText(text string) string {
	return wireNumber(uint64(len(text))) + text
}

// waysOfNodes: of each node the way of its type from the whole (as in waysIn), and whether all nodes stand
// where the document lets them: each in the one ahead of it, or in one that this is in.
func waysOfNodes(v impl.Value, types map[string]impl.Type) ([]string, bool) {
	ways := make([]string, len(v.Nodes))
	for at, n := range v.Nodes {
		if at == 0 {
			if n.Up != -1 {
				return nil, false
			}
			continue
		}
		up := at - 1
		for up >= 0 && up != n.Up {
			up = v.Nodes[up].Up
		}
		if up < 0 {
			return nil, false
		}
		step := partStep(n.No)
		if types[ways[up]].Kind == impl.TypeList {
			step = string([]byte{itemStep})
		}
		ways[at] = ways[up] + step
	}
	return ways, true
}

// wantFits asks each node alone, then the nodes of each message, by the ways of their types.
func wantFits(v impl.Value, s impl.Schema) bool {
	if len(v.Nodes) == 0 || len(v.Nodes) > 40 || !wantGood(s) {
		return false
	}
	types := waysIn(s)
	ways, stand := waysOfNodes(v, types)
	if !stand {
		return false
	}
	for at, n := range v.Nodes {
		t, known := types[ways[at]]
		if !known || n.No != t.No || !wantFitsAlone(n, t) {
			return false
		}
		for later := at + 1; later < len(v.Nodes); later++ {
			sisters := v.Nodes[later].Up == n.Up && t.No != 0
			if sisters && v.Nodes[later].No <= n.No {
				return false
			}
		}
		for way, part := range types {
			its := way != "" && way[:len(way)-1] == ways[at]
			if its && part.Must && !slices.ContainsFunc(v.Nodes, func(m impl.Node) bool { return m.Up == at && m.No == part.No }) {
				return false
			}
		}
	}
	return true
}

func wantFitsAlone(n impl.Node, t impl.Type) bool {
	switch t.Kind {
	case impl.TypeNumber:
		return n.Text == "" && !n.Many && n.Num >= -1000000000 && n.Num <= 1000000000
	case impl.TypeEnum:
		return n.Text == "" && !n.Many && n.Num >= 0 && n.Num <= t.Most
	case impl.TypeText:
		return n.Num == 0 && !n.Many && len(n.Text) <= 30
	}
	return n.Num == 0 && n.Text == "" && n.Many
}

// wantBytes goes from the last node to the first, each putting its bytes ahead of what its Up has so far.
func wantBytes(v impl.Value, s impl.Schema) string {
	types := waysIn(s)
	ways, _ := waysOfNodes(v, types)
	data := make([]string, len(v.Nodes))
	for at := len(v.Nodes) - 1; at > 0; at-- {
		n := v.Nodes[at]
		kind, written := impl.KindBytes, wireText(n.Text+data[at])
		if k := types[ways[at]].Kind; k == impl.TypeNumber || k == impl.TypeEnum {
			kind, written = impl.KindNumber, wireFolded(n.Num)
		}
		if n.No != 0 {
			written = wireNumber(uint64(8*n.No+kind)) + written
		}
		data[n.Up] = written + data[n.Up]
	}
	return data[0]
}

// told is what bytes tell, read as they stand; bad once they are not valid.
type told struct {
	types map[string]impl.Type
	nodes []impl.Node
	bad   bool
}

// wantTold: the nodes that bytes tell by a good schema, and whether they are valid.
func wantTold(b string, s impl.Schema) (impl.Value, bool) {
	x := &told{types: waysIn(s)}
	x.message("", b, impl.Node{Up: -1, Many: true})
	if x.bad {
		return impl.Value{}, false
	}
	return impl.Value{Nodes: x.nodes}, true
}

// number reads one from the front: the library's, if these are the bytes that the library writes of it.
func (x *told) number(b string) (int, string) {
	n, many := binary.Uvarint([]byte(b))
	if many <= 0 || n > greatestVarint || wireNumber(n) != b[:many] {
		x.bad = true
		return 0, ""
	}
	return int(n), b[many:]
}

func (x *told) folded(b string) (int, string) {
	n, rest := x.number(b)
	if n > 2*impl.MaxNumber {
		x.bad = true
	}
	if n%2 == 1 {
		return -(n / 2) - 1, rest
	}
	return n / 2, rest
}

func (x *told) text(b string) (string, string) {
	n, rest := x.number(b)
	if n > len(rest) {
		x.bad = true
		return "", ""
	}
	return rest[:n], rest[n:]
}

// content reads what stands behind a tag, or as an item. Of what is unknown no node is made.
func (x *told) content(way, b string, kind int, n impl.Node) string {
	t, known := x.types[way]
	isNumber := t.Kind == impl.TypeNumber || t.Kind == impl.TypeEnum
	if known && isNumber != (kind == impl.KindNumber) {
		x.bad = true
	}
	text, rest := "", ""
	if kind == impl.KindNumber {
		n.Num, rest = x.folded(b)
	} else {
		text, rest = x.text(b)
	}
	if !known || x.bad {
		return rest
	}
	switch t.Kind {
	case impl.TypeList:
		n.Many = true
		x.list(way, text, n)
	case impl.TypeMessage:
		n.Many = true
		x.message(way, text, n)
	default:
		n.Text = text
		x.nodes = append(x.nodes, n)
		x.bad = x.bad || !wantFitsAlone(n, t)
	}
	return rest
}

func (x *told) list(way, b string, n impl.Node) {
	at := len(x.nodes)
	x.nodes = append(x.nodes, n)
	item := way + string([]byte{itemStep})
	kind := impl.KindBytes
	if k := x.types[item].Kind; k == impl.TypeNumber || k == impl.TypeEnum {
		kind = impl.KindNumber
	}
	for b != "" && !x.bad {
		b = x.content(item, b, kind, impl.Node{Up: at})
	}
}

func (x *told) message(way, b string, n impl.Node) {
	at := len(x.nodes)
	x.nodes = append(x.nodes, n)
	has := map[string]int{}
	last := 0
	for b != "" && !x.bad {
		tag, rest := x.number(b)
		no, kind := tag/8, tag%8
		if x.bad || no <= last || no > 30 || kind != impl.KindNumber && kind != impl.KindBytes {
			x.bad = true
			return
		}
		last = no
		has[way+partStep(no)] = 1
		b = x.content(way+partStep(no), rest, kind, impl.Node{No: no, Up: at})
	}
	for part, t := range x.types {
		if t.Must && part[:len(part)-1] == way && has[part] == 0 {
			x.bad = true
		}
	}
}

// valueMaker makes values that fit, but for having too many nodes at times.
type valueMaker struct {
	source *rand.Rand
	s      impl.Schema
	nodes  []impl.Node
	often  int // of so many parts that need not be one is left out; a list has at most so many items
	most   int // so many bytes a text has at most
}

func randomValue(source *rand.Rand, s impl.Schema) impl.Value {
	for {
		g := &valueMaker{source: source, s: s, often: 1 + source.Intn(5), most: 8}
		if source.Intn(4) == 0 {
			g.often, g.most = 6, impl.MaxString
		}
		g.add(0, impl.Node{Up: -1})
		if len(g.nodes) <= impl.MaxNodes {
			return impl.Value{Nodes: g.nodes}
		}
	}
}

func (g *valueMaker) add(k int, n impl.Node) {
	at := len(g.nodes)
	t := g.s.Types[k]
	n.No = t.No
	n.Many = t.Kind >= impl.TypeList
	switch t.Kind {
	case impl.TypeNumber:
		n.Num = randomNumber(g.source)
	case impl.TypeEnum:
		n.Num = g.source.Intn(t.Most + 1)
	case impl.TypeText:
		n.Text = randomText(g.source, g.most)
	}
	g.nodes = append(g.nodes, n)
	if t.Kind == impl.TypeList {
		for range g.source.Intn(g.often + 1) {
			g.add(k+1, impl.Node{Up: at})
		}
		return
	}
	for i, part := range g.s.Types {
		if part.Up == k && (part.Must || g.source.Intn(g.often) > 0) {
			g.add(i, impl.Node{Up: at})
		}
	}
}

func randomNumber(source *rand.Rand) int {
	switch source.Intn(8) {
	case 0:
		return impl.MaxNumber
	case 1:
		return -impl.MaxNumber
	}
	return (source.Intn(2*impl.MaxNumber+1) - impl.MaxNumber) >> source.Intn(31)
}

func randomText(source *rand.Rand, most int) string {
	if source.Intn(8) == 0 {
		return strings.Repeat("x", impl.MaxString)
	}
	b := make([]byte, source.Intn(most+1))
	source.Read(b)
	return string(b)
}

// randomUnknown is a field of that No, of either kind, with anything in it.
func randomUnknown(source *rand.Rand, no int) string {
	if source.Intn(2) == 0 {
		return wireField(number(no, randomNumber(source)))
	}
	b := make([]byte, source.Intn(40))
	source.Read(b)
	return wireField(data(no, string(b)))
}

// bytesWithUnknown: the bytes of a value that fits, in each of its messages with unknown fields among the
// known ones; how many were put there.
func bytesWithUnknown(source *rand.Rand, v impl.Value, s impl.Schema) (string, int) {
	types := waysIn(s)
	ways, _ := waysOfNodes(v, types)
	return withUnknown(source, v, types, ways, 0)
}

func withUnknown(source *rand.Rand, v impl.Value, types map[string]impl.Type, ways []string, at int) (string, int) {
	b, put, no := "", 0, 1
	unknownUpTo := func(end int) {
		for ; no < end; no++ {
			if _, known := types[ways[at]+partStep(no)]; !known && source.Intn(12) == 0 {
				b += randomUnknown(source, no)
				put++
			}
		}
	}
	inMessage := types[ways[at]].Kind == impl.TypeMessage
	for i, n := range v.Nodes {
		if n.Up != at {
			continue
		}
		if inMessage {
			unknownUpTo(n.No)
			no = n.No + 1
		}
		kind, written := impl.KindBytes, ""
		switch types[ways[i]].Kind {
		case impl.TypeNumber, impl.TypeEnum:
			kind, written = impl.KindNumber, wireFolded(n.Num)
		case impl.TypeText:
			written = wireText(n.Text)
		default:
			inner, more := withUnknown(source, v, types, ways, i)
			written, put = wireText(inner), put+more
		}
		if inMessage {
			written = wireNumber(uint64(8*n.No+kind)) + written
		}
		b += written
	}
	if inMessage {
		unknownUpTo(31)
	}
	return b, put
}
