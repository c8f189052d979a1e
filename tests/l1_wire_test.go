package tests

import (
	"encoding/binary"
	"math"
	"math/rand"
	"slices"
	"strings"
	"testing"

	"loop.example/g00333/impl"
)

const greatestVarint = 2*impl.MaxNumber + 1

func number(no, num int) impl.Field {
	return impl.Field{No: no, Kind: impl.KindNumber, Num: num}
}

func data(no int, text string) impl.Field {
	return impl.Field{No: no, Kind: impl.KindBytes, Data: text}
}

func repeated(f impl.Field, times int) []impl.Field {
	return slices.Repeat([]impl.Field{f}, times)
}

// edgeNumbers are the ends of each length of a varint, and of its bounds.
func edgeNumbers() []int {
	l := []int{0, 1, 2, impl.MaxNumber, 2 * impl.MaxNumber, greatestVarint}
	for bits := 7; bits <= 28; bits += 7 {
		l = append(l, 1<<bits-1, 1<<bits, 1<<bits+1)
	}
	return l
}

// wireNumber is the library's own writing of a number by sevens, also of those that are too great here.
func wireNumber(n uint64) string {
	return string(binary.AppendUvarint(nil, n))
}

func TestConstants(t *testing.T) {
	if impl.MaxWire != 400 || impl.MaxNumber != 1000000000 || impl.KindNumber != 0 || impl.KindBytes != 2 {
		t.Error(impl.MaxWire, impl.MaxNumber, impl.KindNumber, impl.KindBytes)
	}
}

func TestVarintOfKnownNumbers(t *testing.T) {
	for n, want := range map[int]string{
		0:              "\x00",
		1:              "\x01",
		127:            "\x7f",
		128:            "\x80\x01",
		300:            "\xac\x02",
		16383:          "\xff\x7f",
		16384:          "\x80\x80\x01",
		2000000000:     "\x80\xa8\xd6\xb9\x07",
		greatestVarint: "\x81\xa8\xd6\xb9\x07",
	} {
		if got, ok := impl.VarintOf(n); got != want || !ok {
			t.Errorf("VarintOf(%d) = %x, %v; want %x", n, got, ok, want)
		}
	}
}

func TestVarintOfRefuses(t *testing.T) {
	for _, n := range []int{-1, -impl.MaxNumber, greatestVarint + 1, 1 << 31, math.MinInt, math.MaxInt} {
		if got, ok := impl.VarintOf(n); got != "" || ok {
			t.Errorf("VarintOf(%d) = %x, %v", n, got, ok)
		}
	}
}

func TestNumbersComeBack(t *testing.T) {
	source := rand.New(rand.NewSource(1))
	numbers := edgeNumbers()
	for range 20000 {
		numbers = append(numbers, source.Intn(greatestVarint+1)>>source.Intn(31))
	}
	for n := range 20000 {
		numbers = append(numbers, n)
	}
	for _, n := range numbers {
		s, ok := impl.VarintOf(n)
		if s != wireNumber(uint64(n)) || !ok {
			t.Fatalf("VarintOf(%d) = %x, %v", n, s, ok)
		}
		for _, ahead := range []string{"", "\x00", "\xff\x80"} {
			for _, behind := range []string{"", "\x00", "\xff"} {
				got, end, ok := impl.TakeVarint(ahead+s+behind, len(ahead))
				if got != n || end != len(ahead)+len(s) || !ok {
					t.Fatalf("TakeVarint of %d behind %x = %d, %d, %v", n, ahead, got, end, ok)
				}
			}
		}
	}
}

func TestTakeVarintWithinMaxWire(t *testing.T) {
	full := strings.Repeat("\x85", impl.MaxWire-2) + "\xac\x02"
	if n, end, ok := impl.TakeVarint(full, impl.MaxWire-2); n != 300 || end != impl.MaxWire || !ok {
		t.Error("the last number of MaxWire bytes", n, end, ok)
	}
	if n, end, ok := impl.TakeVarint(full, impl.MaxWire-1); n != 2 || end != impl.MaxWire || !ok {
		t.Error("the last byte of MaxWire bytes", n, end, ok)
	}
	for _, at := range []int{0, 1, impl.MaxWire - 1, impl.MaxWire} {
		refuseTake(t, strings.Repeat("\x01", impl.MaxWire+1), at)
	}
}

func refuseTake(t *testing.T, s string, at int) {
	t.Helper()
	if n, end, ok := impl.TakeVarint(s, at); n != 0 || end != 0 || ok {
		t.Errorf("TakeVarint(%x, %d) = %d, %d, %v", s, at, n, end, ok)
	}
}

func TestTakeVarintRefusesPlaces(t *testing.T) {
	for _, at := range []int{-1, 3, 4, impl.MaxWire, math.MinInt, math.MaxInt} {
		refuseTake(t, "\x01\x02\x03", at)
	}
	refuseTake(t, "", 0)
}

func TestTakeVarintRefusesBytes(t *testing.T) {
	for name, s := range map[string]string{
		"ends too early":                 "\x80",
		"ends too early in four":         "\xff\xff\xff\xff",
		"0 in two bytes":                 "\x80\x00",
		"5 in two bytes":                 "\x85\x00",
		"300 in three bytes":             "\xac\x82\x00",
		"a nought as the fifth byte":     "\xff\xff\xff\xff\x00",
		"one above the greatest":         wireNumber(greatestVarint + 1),
		"two to the 31st":                wireNumber(1 << 31),
		"the greatest of five bytes":     "\xff\xff\xff\xff\x7f",
		"six bytes":                      wireNumber(1 << 35),
		"one in six bytes":               "\x81\x80\x80\x80\x80\x00",
		"the greatest int":               wireNumber(math.MaxInt),
		"ten bytes":                      wireNumber(math.MaxUint64),
		"wraps round to 0 in ten bytes":  "\x80\x80\x80\x80\x80\x80\x80\x80\x80\x02",
		"wraps round to 1 in more bytes": "\x81" + strings.Repeat("\x80", 12) + "\x01",
		"no last byte at all":            strings.Repeat("\x80", impl.MaxWire),
	} {
		t.Run(name, func(t *testing.T) {
			refuseTake(t, s, 0)
			if len(s) < impl.MaxWire {
				refuseTake(t, "\x01"+s, 1)
			}
		})
	}
}

func TestTakeVarintOfAllShortBytes(t *testing.T) {
	for a := range 256 {
		for b := range 256 {
			s := string([]byte{byte(a), byte(b)})
			n, end, ok := impl.TakeVarint(s, 0)
			switch {
			case a < 128 && (n != a || end != 1 || !ok),
				a >= 128 && 0 < b && b < 128 && (n != a-128+128*b || end != 2 || !ok),
				a >= 128 && (b == 0 || b >= 128) && (n != 0 || end != 0 || ok):
				t.Errorf("TakeVarint(%x, 0) = %d, %d, %v", s, n, end, ok)
			}
		}
	}
}

func TestFoldNumber(t *testing.T) {
	for n, want := range map[int]int{
		0: 0, -1: 1, 1: 2, -2: 3, 2: 4, -3: 5,
		impl.MaxNumber:      2 * impl.MaxNumber,
		-impl.MaxNumber:     2*impl.MaxNumber - 1,
		impl.MaxNumber - 1:  2*impl.MaxNumber - 2,
		-impl.MaxNumber + 1: 2*impl.MaxNumber - 3,
	} {
		if got, ok := impl.FoldNumber(n); got != want || !ok {
			t.Errorf("FoldNumber(%d) = %d, %v; want %d", n, got, ok, want)
		}
		if got, ok := impl.UnfoldNumber(want); got != n || !ok {
			t.Errorf("UnfoldNumber(%d) = %d, %v; want %d", want, got, ok, n)
		}
	}
}

func TestFoldNumberRefuses(t *testing.T) {
	for _, n := range []int{impl.MaxNumber + 1, -impl.MaxNumber - 1, math.MinInt, math.MaxInt, math.MinInt/2 - 1, math.MaxInt/2 + 1} {
		if got, ok := impl.FoldNumber(n); got != 0 || ok {
			t.Errorf("FoldNumber(%d) = %d, %v", n, got, ok)
		}
	}
}

func TestUnfoldNumberRefuses(t *testing.T) {
	for _, n := range []int{-1, -2, greatestVarint, greatestVarint + 1, math.MinInt, math.MaxInt} {
		if got, ok := impl.UnfoldNumber(n); got != 0 || ok {
			t.Errorf("UnfoldNumber(%d) = %d, %v", n, got, ok)
		}
	}
}

func TestFoldedNumbersComeBack(t *testing.T) {
	source := rand.New(rand.NewSource(2))
	for i := range 40000 {
		folded := i
		if i >= 20000 {
			folded = source.Intn(2*impl.MaxNumber + 1)
		}
		n, ok := impl.UnfoldNumber(folded)
		if again, okAgain := impl.FoldNumber(n); again != folded || !ok || !okAgain {
			t.Fatalf("FoldNumber(UnfoldNumber(%d)) = %d, %v, %v", folded, again, ok, okAgain)
		}
	}
}

func TestFieldsBytesKnown(t *testing.T) {
	for name, c := range map[string]struct {
		fields []impl.Field
		bytes  string
	}{
		"none":                    {nil, ""},
		"number 0":                {[]impl.Field{number(1, 0)}, "\x08\x00"},
		"no bytes":                {[]impl.Field{data(1, "")}, "\x0a\x00"},
		"a number and bytes":      {[]impl.Field{number(1, -1), data(2, "hi")}, "\x08\x01\x12\x02hi"},
		"a tag in one byte":       {[]impl.Field{data(15, "x")}, "\x7a\x01x"},
		"a tag in two bytes":      {[]impl.Field{number(16, 1)}, "\x80\x01\x02"},
		"No 30":                   {[]impl.Field{number(30, 64), data(30, "\x00\xff")}, "\xf0\x01\x80\x01\xf2\x01\x02\x00\xff"},
		"MaxNumber":               {[]impl.Field{number(3, impl.MaxNumber)}, "\x18\x80\xa8\xd6\xb9\x07"},
		"-MaxNumber":              {[]impl.Field{number(3, -impl.MaxNumber)}, "\x18\xff\xa7\xd6\xb9\x07"},
		"falling, and two of one": {[]impl.Field{number(2, 1), number(1, 2), number(2, 3)}, "\x10\x02\x08\x04\x10\x06"},
		"127 bytes":               {[]impl.Field{data(1, strings.Repeat("a", 127))}, "\x0a\x7f" + strings.Repeat("a", 127)},
		"128 bytes":               {[]impl.Field{data(1, strings.Repeat("a", 128))}, "\x0a\x80\x01" + strings.Repeat("a", 128)},
		"MaxWire bytes":           {[]impl.Field{data(1, strings.Repeat("a", 397))}, "\x0a\x8d\x03" + strings.Repeat("a", 397)},
		"40 fields":               {repeated(number(1, -2), 40), strings.Repeat("\x08\x03", 40)},
		"40 fields, MaxWire": {repeated(data(7, "1234567\x80"), 40),
			strings.Repeat("\x3a\x081234567\x80", 40)},
	} {
		t.Run(name, func(t *testing.T) {
			if got, ok := impl.FieldsBytes(c.fields); got != c.bytes || !ok {
				t.Errorf("FieldsBytes = %x, %v; want %x", got, ok, c.bytes)
			}
			if got, ok := impl.ReadFields(c.bytes); !slices.Equal(got, c.fields) || !ok {
				t.Errorf("ReadFields(%x) = %v, %v; want %v", c.bytes, got, ok, c.fields)
			}
		})
	}
}

// wrongFields have each something outside its bounds, or something that its Kind does not name.
func wrongFields() map[string]impl.Field {
	return map[string]impl.Field{
		"the zero field":          {},
		"No 0":                    number(0, 1),
		"No 0 of bytes":           data(0, "x"),
		"No 31":                   number(31, 1),
		"No 31 of bytes":          data(31, "x"),
		"No -1":                   number(-1, 1),
		"the least No":            number(math.MinInt, 1),
		"the greatest No":         number(math.MaxInt, 1),
		"Kind 1":                  {No: 1, Kind: 1},
		"Kind 3":                  {No: 1, Kind: 3},
		"Kind 7":                  {No: 1, Kind: 7},
		"Kind 8":                  {No: 1, Kind: 8},
		"Kind 10":                 {No: 1, Kind: 10},
		"Kind -1":                 {No: 1, Kind: -1},
		"Kind -6":                 {No: 2, Kind: -6},
		"the least Kind":          {No: 1, Kind: math.MinInt},
		"the greatest Kind":       {No: 1, Kind: math.MaxInt},
		"above MaxNumber":         number(1, impl.MaxNumber+1),
		"below -MaxNumber":        number(1, -impl.MaxNumber-1),
		"the least Num":           number(1, math.MinInt),
		"the greatest Num":        number(1, math.MaxInt),
		"a number with Data":      {No: 1, Kind: impl.KindNumber, Num: 1, Data: "x"},
		"bytes with Num":          {No: 1, Kind: impl.KindBytes, Num: 1, Data: "x"},
		"bytes with Num below 0":  {No: 1, Kind: impl.KindBytes, Num: -1},
		"Kind 1 with Num":         {No: 1, Kind: 1, Num: 1},
		"an unknown Kind, filled": {No: 1, Kind: 5, Num: 1, Data: "x"},
	}
}

func TestWrongFieldsAreRefused(t *testing.T) {
	good := number(1, 1)
	for name, wrong := range wrongFields() {
		t.Run(name, func(t *testing.T) {
			for _, l := range [][]impl.Field{{wrong}, {wrong, good}, {good, good, wrong}, append(repeated(good, 39), wrong)} {
				if got, ok := impl.FieldsBytes(l); got != "" || ok {
					t.Errorf("FieldsBytes(%v) = %x, %v", l, got, ok)
				}
				if got, ok := impl.SortFields(l); len(got) != 0 || ok {
					t.Errorf("SortFields(%v) = %v, %v", l, got, ok)
				}
			}
		})
	}
}

func TestFieldsBytesRefusesTooMany(t *testing.T) {
	for name, l := range map[string][]impl.Field{
		"41 fields":                    repeated(number(1, 0), 41),
		"1000 fields":                  repeated(number(1, 0), 1000),
		"one byte above MaxWire":       {data(1, strings.Repeat("a", 398))},
		"one above by the tag":         {data(16, strings.Repeat("a", 397))},
		"one above by the last field":  {data(1, strings.Repeat("a", 396)), number(1, 0)},
		"one above by many":            append(repeated(data(1, "12345678"), 39), data(1, "123456789")),
		"a text longer than MaxWire":   {data(1, strings.Repeat("a", impl.MaxWire+1))},
		"a text longer than a million": {number(1, 0), data(1, strings.Repeat("a", 1<<20))},
	} {
		t.Run(name, func(t *testing.T) {
			if got, ok := impl.FieldsBytes(l); got != "" || ok {
				t.Errorf("%d bytes, %v", len(got), ok)
			}
		})
	}
}

func TestReadFieldsRefuses(t *testing.T) {
	for name, s := range map[string]string{
		"a tag alone":                     "\x08",
		"a tag of bytes alone":            "\x0a",
		"half a tag":                      "\x80",
		"half a number":                   "\x08\x80",
		"half a length":                   "\x0a\x80",
		"bytes that end too early":        "\x0a\x02x",
		"no bytes where one is told":      "\x0a\x01",
		"a length above all bytes":        "\x0a\x81\xa8\xd6\xb9\x07x",
		"a good field, then a tag":        "\x08\x01\x08",
		"a good field, then a nought":     "\x08\x01\x00",
		"No 0":                            "\x00\x00",
		"No 0 of bytes":                   "\x02\x00",
		"No 31":                           "\xf8\x01\x00",
		"No 31 of bytes":                  "\xfa\x01\x00",
		"No 32":                           "\x80\x02\x00",
		"a tag of the greatest number":    "\x80\xa8\xd6\xb9\x07\x00",
		"Kind 1":                          "\x09\x00",
		"Kind 1 of eight bytes":           "\x0912345678",
		"Kind 3":                          "\x0b\x00",
		"Kind 4":                          "\x0c\x00",
		"Kind 5":                          "\x0d1234",
		"Kind 6":                          "\x0e\x00",
		"Kind 7":                          "\x0f\x00",
		"a tag in more bytes than need":   "\x88\x00\x00",
		"a number in more bytes than":     "\x08\x81\x00",
		"a length in more bytes than":     "\x0a\x81\x00x",
		"a number above what is folded":   "\x08" + wireNumber(greatestVarint),
		"a number above all":              "\x08" + wireNumber(greatestVarint+1),
		"41 fields":                       strings.Repeat("\x08\x00", 41),
		"41 fields of bytes":              strings.Repeat("\x0a\x00", 41),
		"200 fields, MaxWire bytes":       strings.Repeat("\x08\x00", 200),
		"one byte above MaxWire":          "\x0a\x8e\x03" + strings.Repeat("a", 398),
		"one byte above MaxWire in two":   "\x0a\x8b\x03" + strings.Repeat("a", 395) + "\x08\x80\x01",
		"MaxWire bytes, one field's half": "\x0a\x8d\x03" + strings.Repeat("a", 396),
	} {
		t.Run(name, func(t *testing.T) {
			if got, ok := impl.ReadFields(s); len(got) != 0 || ok {
				t.Errorf("ReadFields(%x) = %v, %v", s, got, ok)
			}
		})
	}
}

// randomField is any good one, its Data of fewer bytes than most.
func randomField(source *rand.Rand, most int) impl.Field {
	no := 1 + source.Intn(30)
	if source.Intn(2) == 0 {
		return number(no, (source.Intn(2*impl.MaxNumber+1)-impl.MaxNumber)>>source.Intn(31))
	}
	b := make([]byte, source.Intn(most))
	source.Read(b)
	return data(no, string(b))
}

func TestFieldsComeBack(t *testing.T) {
	source := rand.New(rand.NewSource(3))
	made := 0
	for range 20000 {
		var l []impl.Field
		for range source.Intn(42) {
			l = append(l, randomField(source, 12))
		}
		s, ok := impl.FieldsBytes(l)
		want := ""
		for _, f := range l {
			want += wireField(f)
		}
		if fits := len(l) <= 40 && len(want) <= impl.MaxWire; ok != fits || ok && s != want || !ok && s != "" {
			t.Fatalf("FieldsBytes(%v) = %x, %v; want %x", l, s, ok, want)
		}
		if !ok {
			continue
		}
		made++
		if got, ok := impl.ReadFields(s); !slices.Equal(got, l) || !ok {
			t.Fatalf("ReadFields(%x) = %v, %v; want %v", s, got, ok, l)
		}
	}
	if made < 1000 {
		t.Error("too few lists were good:", made)
	}
}

func wireField(f impl.Field) string {
	tag := wireNumber(uint64(8*f.No + f.Kind))
	if f.Kind == impl.KindBytes {
		return tag + wireNumber(uint64(len(f.Data))) + f.Data
	}
	return tag + string(binary.AppendVarint(nil, int64(f.Num)))
}

// What is read of any bytes must be what these bytes are written from: there is one writing of each list.
func TestReadFieldsOfManyBytes(t *testing.T) {
	source := rand.New(rand.NewSource(4))
	letters := "\x00\x01\x02\x07\x08\x09\x0a\x12\x7a\x7f\x80\x81\xf0\xf2\xf8\xff"
	check := func(s string) bool {
		l, ok := impl.ReadFields(s)
		if again, okAgain := impl.FieldsBytes(l); ok && (again != s || !okAgain) || !ok && len(l) != 0 {
			t.Fatalf("ReadFields(%x) = %v, %v, which are the bytes %x, %v", s, l, ok, again, okAgain)
		}
		return ok
	}
	read := 0
	for a := range 256 {
		for b := range 256 {
			if check(string([]byte{byte(a), byte(b)})) {
				read++
			}
		}
	}
	// Nos 1..15 have a tag in one byte: 128 numbers in one byte, and no bytes.
	if read != 15*128+15 {
		t.Error("fields in two bytes:", read)
	}
	for range 200000 {
		b := make([]byte, 1+source.Intn(9))
		for i := range b {
			b[i] = letters[source.Intn(len(letters))]
		}
		check(string(b))
	}
}

func TestSortFields(t *testing.T) {
	l := []impl.Field{number(30, 1), data(2, "b"), number(2, -5), number(1, 7), data(2, "a"), number(30, 0), data(2, "")}
	want := []impl.Field{number(1, 7), data(2, "b"), number(2, -5), data(2, "a"), data(2, ""), number(30, 1), number(30, 0)}
	if got, ok := impl.SortFields(l); !slices.Equal(got, want) || !ok {
		t.Errorf("%v, %v; want %v", got, ok, want)
	}
	if got, ok := impl.SortFields(nil); len(got) != 0 || !ok {
		t.Error("none", got, ok)
	}
	long := []impl.Field{data(2, strings.Repeat("a", impl.MaxWire+1)), number(1, 0)}
	if got, ok := impl.SortFields(long); len(got) != 2 || got[0] != long[1] || got[1] != long[0] || !ok {
		t.Error("Data longer than MaxWire, of which no bytes are made here", ok)
	}
}

func TestSortFieldsBounds(t *testing.T) {
	for many, want := range map[int]bool{0: true, 1: true, 39: true, 40: true, 41: false, 1000: false} {
		got, ok := impl.SortFields(repeated(number(1, 0), many))
		if ok != want || ok && len(got) != many || !ok && len(got) != 0 {
			t.Error(many, len(got), ok)
		}
	}
}

func TestSortFieldsKeepsOrder(t *testing.T) {
	source := rand.New(rand.NewSource(5))
	for range 2000 {
		l := make([]impl.Field, source.Intn(41))
		for i := range l {
			l[i] = number(1+source.Intn(5), i) // Num tells where it stood
		}
		got, ok := impl.SortFields(l)
		if !ok || len(got) != len(l) {
			t.Fatal(l, got, ok)
		}
		for i, f := range got {
			if l[f.Num] != f || i > 0 && (got[i-1].No > f.No || got[i-1].No == f.No && got[i-1].Num >= f.Num) {
				t.Fatalf("SortFields(%v) = %v", l, got)
			}
		}
	}
}
