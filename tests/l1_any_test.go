package tests

import (
	"math"
	"slices"
	"strings"
	"sync"
	"testing"
	"unsafe"

	"loop.example/g00333/impl"
)

func anyNumbers() []int {
	l := []int{math.MinInt, math.MinInt + 1, math.MaxInt - 1, math.MaxInt, math.MinInt32, math.MaxInt32, math.MaxUint32}
	for _, near := range []int{0, 30, 40, impl.MaxWire, impl.MaxNumber, -impl.MaxNumber, 2 * impl.MaxNumber, greatestVarint} {
		l = append(l, near-1, near, near+1)
	}
	return l
}

func anyTexts() []string {
	return []string{
		"", "\x00", "\x80", "\xff", "hello", "\x08\x01\x12\x02hi", "\xff\xfe\xfd",
		strings.Repeat("\x00", impl.MaxWire), strings.Repeat("\xff", impl.MaxWire+1),
		strings.Repeat("\x08\x00", impl.MaxWire), strings.Repeat("a", 1<<20),
	}
}

func anyFields() [][]impl.Field {
	l := [][]impl.Field{nil, {}, {{}}, repeated(impl.Field{}, 41), repeated(number(1, 1), 1<<16)}
	for _, n := range anyNumbers() {
		l = append(l, []impl.Field{{No: n, Kind: n, Num: n}}, []impl.Field{{No: 1, Kind: n}}, []impl.Field{number(1, n), data(2, "x")})
	}
	for _, s := range anyTexts() {
		l = append(l, []impl.Field{data(1, s)}, []impl.Field{{No: 1, Data: s}}, []impl.Field{number(2, 5), data(1, s)})
	}
	return l
}

// A panic in any of these fails the test by itself.
func TestWireAnswersAtAnyNumbersAndTexts(t *testing.T) {
	for _, n := range anyNumbers() {
		if s, ok := impl.VarintOf(n); ok != (0 <= n && n <= greatestVarint) || !ok && s != "" {
			t.Errorf("VarintOf(%d) = %x, %v", n, s, ok)
		}
		if f, ok := impl.FoldNumber(n); ok != (-impl.MaxNumber <= n && n <= impl.MaxNumber) || !ok && f != 0 {
			t.Error("FoldNumber", n, f, ok)
		}
		if f, ok := impl.UnfoldNumber(n); ok != (0 <= n && n <= 2*impl.MaxNumber) || !ok && f != 0 {
			t.Error("UnfoldNumber", n, f, ok)
		}
		for _, s := range anyTexts() {
			got, end, ok := impl.TakeVarint(s, n)
			if !ok && (got != 0 || end != 0) || ok && (n < 0 || end <= n || end > len(s) || len(s) > impl.MaxWire) {
				t.Errorf("TakeVarint of %d bytes at %d: %d, %d, %v", len(s), n, got, end, ok)
			}
		}
	}
	for _, s := range anyTexts() {
		if l, ok := impl.ReadFields(s); !ok && len(l) != 0 || ok && len(s) > impl.MaxWire {
			t.Error("ReadFields", len(s), l, ok)
		}
	}
}

func TestWireWritesIntoNoList(t *testing.T) {
	mark := impl.Field{No: 77, Kind: 77, Num: 77, Data: "mark"}
	for _, l := range append(anyFields(), []impl.Field{number(3, 1), data(1, "b"), number(2, 3), data(1, "a")}) {
		// What lies behind the length is neither to be read nor written.
		memory := append(slices.Clone(l), mark, mark, mark)
		before := slices.Clone(memory)
		given := memory[:len(l)]
		s, okBytes := impl.FieldsBytes(given)
		sorted, okSort := impl.SortFields(given)
		if !slices.Equal(memory, before) {
			t.Fatalf("a list of %d was written into", len(l))
		}
		if !okBytes && s != "" || !okSort && len(sorted) != 0 || okBytes && !okSort {
			t.Errorf("a list of %d: %d bytes, %v, %d sorted, %v", len(l), len(s), okBytes, len(sorted), okSort)
		}
		if okSort && len(sorted) != len(l) || slices.Contains(sorted[:cap(sorted)], mark) {
			t.Errorf("a list of %d gave %d, or what lies behind it", len(l), len(sorted))
		}
	}
}

func TestSortFieldsHandsOutNewMemory(t *testing.T) {
	l := []impl.Field{data(2, "two"), data(1, "one")}
	before := slices.Clone(l)
	first, _ := impl.SortFields(l)
	second, _ := impl.SortFields(l)
	first[0].Num, first[1].No = 9, 9
	_ = append(first[:1], number(8, 8))
	if !slices.Equal(l, before) || !slices.Equal(second, []impl.Field{before[1], before[0]}) {
		t.Error("an answer shares memory", l, second)
	}
	for _, f := range second {
		for _, g := range l {
			if unsafe.StringData(f.Data) == unsafe.StringData(g.Data) {
				t.Error("Data shares the argument's memory:", f.Data)
			}
		}
	}
}

func TestReadFieldsHandsOutNewMemory(t *testing.T) {
	s := strings.Clone("\x0a\x03one\x12\x03two")
	want := []impl.Field{data(1, "one"), data(2, "two")}
	first, _ := impl.ReadFields(s)
	first[0].Data, first[1].No = "gone", 9
	second, ok := impl.ReadFields(s)
	if !slices.Equal(second, want) || !ok {
		t.Error("an answer shares memory", second, ok)
	}
	from := uintptr(unsafe.Pointer(unsafe.StringData(s)))
	for _, f := range second {
		if at := uintptr(unsafe.Pointer(unsafe.StringData(f.Data))); from <= at && at < from+uintptr(len(s)) {
			t.Error("Data shares the argument's memory:", f.Data)
		}
	}
}

// The table that is made once must be whole for whoever comes first, and for all beside it.
func TestWireAnswersTheSameFromManySides(t *testing.T) {
	l := []impl.Field{number(2, -5), data(1, "x")}
	var joined sync.WaitGroup
	for range 16 {
		joined.Go(func() {
			for range 100 {
				s, ok := impl.FieldsBytes(l)
				got, okRead := impl.ReadFields(s)
				if s != "\x10\x09\x0a\x01x" || !ok || !slices.Equal(got, l) || !okRead {
					t.Errorf("%x, %v, %v, %v", s, ok, got, okRead)
					return
				}
			}
		})
	}
	joined.Wait()
}
