package tests

import (
	"math/rand"
	"slices"

	"loop.example/g00333/impl"
)

// wireOf is the bytes of these fields, as they stand: also of those that are no fields of chapter 5.
func wireOf(l ...impl.Field) string {
	b := ""
	for _, f := range l {
		b += wireField(f)
	}
	return b
}

// fieldBytes: of bytes that are fields rising by No those of each, by its No. What is seen and put is then
// bytes alone, with nothing read and written anew.
func fieldBytes(b string) (map[int]string, bool) {
	if len(b) > 400 {
		return nil, false
	}
	x := &told{}
	by, last := map[int]string{}, 0
	for b != "" {
		tag, rest := x.number(b)
		no := tag / 8
		switch {
		case x.bad || no <= last || no > 30:
			return nil, false
		case tag%8 == impl.KindNumber:
			_, rest = x.folded(rest)
		case tag%8 == impl.KindBytes:
			_, rest = x.text(rest)
		default:
			return nil, false
		}
		if x.bad {
			return nil, false
		}
		by[no] = b[:len(b)-len(rest)]
		last, b = no, rest
	}
	return by, true
}

func wantNos(nos []int) bool {
	marks := map[int]int{}
	for _, no := range nos {
		marks[no]++
	}
	inOrder := slices.IsSorted(nos) && len(marks) == len(nos)
	return inOrder && (len(nos) == 0 || nos[0] >= 1 && nos[len(nos)-1] <= 30)
}

func wantView(b string, nos []int) (string, bool) {
	by, ok := fieldBytes(b)
	if !ok || !wantNos(nos) {
		return "", false
	}
	seen := ""
	for _, no := range nos {
		seen += by[no]
	}
	return seen, true
}

func wantPut(b string, nos []int, view string) (string, bool) {
	by, ok := fieldBytes(b)
	put, okPut := fieldBytes(view)
	if !ok || !okPut || !wantNos(nos) {
		return "", false
	}
	for _, no := range nos {
		by[no] = put[no]
		delete(put, no)
	}
	all := ""
	for no := range 31 {
		all += by[no]
	}
	if len(put) > 0 || len(all) > 400 {
		return "", false
	}
	return all, true
}

// wantDown asks for a good schema.
func wantDown(b string, s impl.Schema) (string, bool) {
	v, valid := wantTold(b, s)
	if !valid || len(b) > 400 || len(v.Nodes) > 40 {
		return "", false
	}
	return wantBytes(v, s), true
}

// wantDrops asks for a good schema.
func wantDrops(b string, s impl.Schema) ([]int, bool) {
	_, valid := wantTold(b, s)
	by, ok := fieldBytes(b)
	if !valid || !ok {
		return nil, false
	}
	types := waysIn(s)
	var drops []int
	for no := range 31 {
		if _, known := types[partStep(no)]; !known && by[no] != "" {
			drops = append(drops, no)
		}
	}
	return drops, true
}

// widened is a good schema that takes the given one in: with parts left out, some that Must be no more,
// enums of more, and other Names.
func widened(source *rand.Rand, s impl.Schema) impl.Schema {
	ways := waysIn(s)
	var sorted []string
	for way := range ways {
		sorted = append(sorted, way)
	}
	slices.Sort(sorted)
	for _, way := range sorted[1:] {
		t, there := ways[way]
		if !there || source.Intn(3) > 0 {
			continue
		}
		inMessage := way[len(way)-1] != itemStep
		switch source.Intn(4) {
		case 0:
			t.Must = false
		case 1:
			if t.Kind == impl.TypeEnum {
				t.Most += source.Intn(21 - t.Most)
			}
		case 2:
			if inMessage {
				t.Name = "w" + string([]byte{byte('a' + t.No/26), byte('a' + t.No%26)})
			}
		case 3:
			if inMessage {
				dropWay(ways, way)
				continue
			}
		}
		ways[way] = t
	}
	return schemaOfWays(ways)
}

// randomNos has each of 1..30 once in so many times.
func randomNos(source *rand.Rand, often int) []int {
	var nos []int
	for no := 1; no <= 30; no++ {
		if source.Intn(often) == 0 {
			nos = append(nos, no)
		}
	}
	return nos
}

// randomRising is fields with some of the Nos; they may be more bytes than MaxWire.
func randomRising(source *rand.Rand, nos []int, often int) string {
	b := ""
	for _, no := range nos {
		if source.Intn(often) == 0 {
			b += randomUnknown(source, no)
		}
	}
	return b
}

func allNos() []int {
	var nos []int
	for no := 1; no <= 30; no++ {
		nos = append(nos, no)
	}
	return nos
}

// allFields is a number of each No.
func allFields() string {
	b := ""
	for _, no := range allNos() {
		b += wireField(number(no, no))
	}
	return b
}
