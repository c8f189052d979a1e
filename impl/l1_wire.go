package impl

import (
	"cmp"
	"slices"
	"strings"
	"sync"
)

const MaxWire = 400
const MaxNumber = 1000000000

// Kind 1 is left free: fields are either a number or bytes that tell their length.
const (
	KindNumber = iota
	_
	KindBytes
)

const (
	maxFields  = 40
	maxNo      = 30
	maxVarint  = 2*MaxNumber + 1
	maxSevens  = 5 // maxVarint has 31 bits
	kindsInTag = 8 // a tag is 8 No and Kind
)

type Field struct {
	No   int
	Kind int
	Num  int
	Data string
}

// kindRow is a kind that fields may have, with what it names of Num and Data.
type kindRow struct {
	kind    int
	hasNum  bool
	hasData bool
}

var kindRows = [...]kindRow{
	{kind: KindNumber, hasNum: true},
	{kind: KindBytes, hasData: true},
}

// rowByKind only helps to set room aside: what is answered comes from rowOf, so that no answer
// hangs on a variable.
var (
	rowByKind     [kindsInTag]kindRow
	rowByKindOnce sync.Once
)

func fillRowByKind() {
	for _, row := range kindRows {
		rowByKind[row.kind] = row
	}
}

// roomFor takes good fields alone, as their Kind is an index here.
func roomFor(l []Field) int {
	rowByKindOnce.Do(fillRowByKind)
	room := 0
	for _, f := range l {
		room += 2 * maxSevens // the tag, and the number or how long Data is
		if rowByKind[f.Kind].hasData {
			room += len(f.Data)
		}
	}
	return min(room, MaxWire)
}

func rowOf(kind int) (kindRow, bool) {
	for _, row := range kindRows {
		if row.kind == kind {
			return row, true
		}
	}
	return kindRow{}, false
}

func VarintOf(n int) (string, bool) {
	if n < 0 || n > maxVarint {
		return "", false
	}
	return string(appendVarint(nil, n)), true
}

// appendVarint takes numbers within VarintOf's bounds alone.
func appendVarint(b []byte, n int) []byte {
	for n >= 128 {
		b = append(b, byte(n%128+128))
		n /= 128
	}
	return append(b, byte(n))
}

func TakeVarint(s string, at int) (int, int, bool) {
	if len(s) > MaxWire || at < 0 || at >= len(s) {
		return 0, 0, false
	}
	n, unit := 0, 1
	for i := at; i < len(s) && i < at+maxSevens; i++ {
		n += int(s[i]%128) * unit
		unit *= 128
		if s[i] < 128 {
			// A last byte of nought adds nothing: fewer bytes would have done, but for 0 itself.
			needless := s[i] == 0 && i > at
			if needless || n > maxVarint {
				return 0, 0, false
			}
			return n, i + 1, true
		}
	}
	return 0, 0, false
}

func FoldNumber(n int) (int, bool) {
	if !goodNumber(n) {
		return 0, false
	}
	if n < 0 {
		return -2*n - 1, true
	}
	return 2 * n, true
}

func UnfoldNumber(n int) (int, bool) {
	// 2 MaxNumber and 1 is a number of VarintOf's, but what it would fold is below -MaxNumber.
	if n < 0 || n > 2*MaxNumber {
		return 0, false
	}
	if n%2 == 1 {
		return -(n + 1) / 2, true
	}
	return n / 2, true
}

func goodNumber(n int) bool {
	return -MaxNumber <= n && n <= MaxNumber
}

func goodField(f Field) bool {
	row, known := rowOf(f.Kind)
	if !known || f.No < 1 || f.No > maxNo {
		return false
	}
	if !row.hasNum && f.Num != 0 || !row.hasData && f.Data != "" {
		return false
	}
	return goodNumber(f.Num)
}

func goodFields(l []Field) bool {
	if len(l) > maxFields {
		return false
	}
	for _, f := range l {
		if !goodField(f) {
			return false
		}
	}
	return true
}

func FieldsBytes(l []Field) (string, bool) {
	if !goodFields(l) {
		return "", false
	}
	b := make([]byte, 0, roomFor(l))
	for _, f := range l {
		// Ahead of copying, so that a Data of any length costs nothing.
		if len(f.Data) > MaxWire {
			return "", false
		}
		b = appendField(b, f)
	}
	if len(b) > MaxWire {
		return "", false
	}
	return string(b), true
}

// appendField takes good fields alone.
func appendField(b []byte, f Field) []byte {
	b = appendVarint(b, kindsInTag*f.No+f.Kind)
	return appendContent(b, f)
}

// appendContent appends what stands behind a field's tag; the items of lists stand so without any.
func appendContent(b []byte, f Field) []byte {
	row, _ := rowOf(f.Kind)
	if row.hasNum {
		folded, _ := FoldNumber(f.Num)
		return appendVarint(b, folded)
	}
	b = appendVarint(b, len(f.Data))
	return append(b, f.Data...)
}

func ReadFields(s string) ([]Field, bool) {
	if len(s) > MaxWire {
		return nil, false
	}
	var l []Field
	at := 0
	for at < len(s) {
		f, behind, ok := takeField(s, at)
		if !ok || len(l) == maxFields {
			return nil, false
		}
		l = append(l, f)
		at = behind
	}
	return l, true
}

func takeField(s string, at int) (Field, int, bool) {
	tag, at, ok := TakeVarint(s, at)
	if !ok {
		return Field{}, 0, false
	}
	f := Field{No: tag / kindsInTag, Kind: tag % kindsInTag}
	if !goodField(f) {
		return Field{}, 0, false
	}
	return takeContent(s, at, f)
}

// takeContent reads what stands behind the tag of a field of which this has been read so far.
func takeContent(s string, at int, f Field) (Field, int, bool) {
	n, at, ok := TakeVarint(s, at)
	if !ok {
		return Field{}, 0, false
	}
	if row, _ := rowOf(f.Kind); row.hasNum {
		f.Num, ok = UnfoldNumber(n)
		return f, at, ok
	}
	if n > len(s)-at {
		return Field{}, 0, false
	}
	f.Data = strings.Clone(s[at : at+n])
	return f, at + n, true
}

func SortFields(l []Field) ([]Field, bool) {
	if !goodFields(l) {
		return nil, false
	}
	sorted := make([]Field, 0, len(l))
	for _, f := range l {
		f.Data = strings.Clone(f.Data)
		sorted = append(sorted, f)
	}
	slices.SortStableFunc(sorted, func(a, b Field) int { return cmp.Compare(a.No, b.No) })
	return sorted, true
}
