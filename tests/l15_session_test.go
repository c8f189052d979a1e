package tests

import (
	"fmt"
	"math"
	"slices"
	"strings"
	"testing"

	"loop.example/g00333/impl"
)

func TestLimitsAndKindsOfSessions(t *testing.T) {
	if impl.MaxItems != 30 || impl.MaxWindow != 4 || impl.MaxOnWay != 12 || impl.MaxSessionSteps != 200 {
		t.Error(impl.MaxItems, impl.MaxWindow, impl.MaxOnWay, impl.MaxSessionSteps)
	}
	kinds := []int{impl.SesPush, impl.SesSend, impl.SesTake, impl.SesLose, impl.SesTwice, impl.SesAck, impl.SesCut}
	if !slices.Equal(kinds, []int{1, 2, 3, 4, 5, 6, 7}) {
		t.Error(kinds)
	}
}

func TestNewSession(t *testing.T) {
	for long := range 60 {
		for _, fill := range []string{"a", "\x00", "\xff", "é"} {
			first := strings.Repeat(fill, 60)[:long]
			want := impl.Session{Epoch: 1, Items: []string{first}}
			if long > 20 {
				want = impl.Session{}
			}
			s, ok := impl.NewSession(first)
			if !sameSession(s, want) || ok != (long <= 20) || impl.GoodSession(s) != ok {
				t.Errorf("NewSession(%q) = %s, %v; want %s", first, shownSession(s), ok, shownSession(want))
			}
		}
	}
	if s, ok := impl.NewSession(strings.Repeat("a", 1<<20)); !sameSession(s, impl.Session{}) || ok {
		t.Errorf("NewSession of a very long text = %s, %v", shownSession(s), ok)
	}
}

func TestGoodSessionsAndOthers(t *testing.T) {
	for name, s := range goodSessions() {
		if !impl.GoodSession(s) || !wantGoodSession(s) {
			t.Errorf("%s: GoodSession(%s) = %v, the reference %v", name, shownSession(s), impl.GoodSession(s), wantGoodSession(s))
		}
	}
	for name, s := range wrongSessions() {
		if impl.GoodSession(s) || wantGoodSession(s) {
			t.Errorf("%s: GoodSession(%s) = %v, the reference %v", name, shownSession(s), impl.GoodSession(s), wantGoodSession(s))
		}
	}
}

func TestGoodSessionByItsEdges(t *testing.T) {
	isGood := func(s impl.Session, want bool, about string, numbers ...int) {
		t.Helper()
		if impl.GoodSession(s) != want {
			t.Errorf("%s %v: %s is %v", about, numbers, shownSession(s), !want)
		}
	}
	for _, epoch := range []int{math.MinInt, -1, 0, 1, 2, 999, 1000, 1001, 1002, math.MaxInt} {
		isGood(impl.Session{Epoch: epoch}, epoch >= 1 && epoch <= 1000, "an epoch", epoch)
		for _, of := range []int{1, 2, 5, 999, 1000} {
			s := session("1 0 0 a - -")
			s.Epoch, s.Acks = of, []impl.Ack{{Epoch: epoch}}
			isGood(s, epoch >= 1 && epoch <= of, "an ack's epoch, in another one", epoch, of)
			s.Acks, s.Way = nil, []impl.Packet{{Epoch: epoch, Text: "a"}}
			isGood(s, epoch >= 1 && epoch <= of, "a packet's epoch, in another one", epoch, of)
		}
	}
	for many := range 40 {
		isGood(impl.Session{Epoch: 1, Items: manyItems(many, 3)}, many <= 30, "items", many)
		s := session("1 0 1 a - -")
		s.Way = slices.Repeat([]impl.Packet{{Epoch: 1, Text: "a"}}, many)
		isGood(s, many <= 12, "packets", many)
		s.Way, s.Acks = nil, slices.Repeat([]impl.Ack{{Epoch: 1, Upto: 1}}, many)
		isGood(s, many <= 12, "acks", many)
		for at := range 30 {
			items := manyItems(30, 20)
			items[at] = strings.Repeat("a", many)
			isGood(impl.Session{Epoch: 1, Items: items}, many <= 20, "an item of so many bytes, at", many, at)
		}
	}
}

func TestGoodSessionByItsWindow(t *testing.T) {
	for _, many := range []int{0, 1, 3, 4, 5, 7, 29, 30} {
		items := manyItems(many, 4)
		for handed := range many + 1 {
			for base := -2; base <= many+2; base++ {
				s := impl.Session{Epoch: 3, Items: items, Base: base, Handed: items[:handed]}
				isRight := 0 <= base && base <= handed
				if impl.GoodSession(s) != isRight {
					t.Errorf("base %d of %d handed on: %v", base, handed, !isRight)
				}
				for at := -2; at <= many+6; at++ {
					s.Acks, s.Way = []impl.Ack{{Epoch: 2, Upto: at}}, nil
					if want := isRight && 0 <= at && at <= handed; impl.GoodSession(s) != want {
						t.Errorf("an ack of %d, base %d, %d of %d handed on: %v", at, base, handed, many, !want)
					}
					s.Acks, s.Way = nil, []impl.Packet{{Epoch: 1, No: at, Text: itemOr(items, at)}}
					if want := isRight && 0 <= at && at < base+4 && at < many; impl.GoodSession(s) != want {
						t.Errorf("a packet %d, base %d, %d of %d handed on: %v", at, base, handed, many, !want)
					}
					for other := range items {
						s.Way[0].Text = items[other]
						if want := isRight && 0 <= at && at < base+4 && at == other; impl.GoodSession(s) != want {
							t.Errorf("a packet %d with item %d, base %d: %v", at, other, base, !want)
						}
					}
				}
			}
		}
	}
}

func TestGoodSessionOfWhatWasHandedOn(t *testing.T) {
	items := []string{"a", "b", "", "ab", "a"}
	for first := range len(items) + 1 {
		for behind := first; behind <= len(items); behind++ {
			handed := slices.Clone(items[first:behind])
			want := len(handed) == 0 || first == 0 || slices.Equal(handed, items[:1])
			s := impl.Session{Epoch: 1, Items: items, Handed: handed}
			if impl.GoodSession(s) != want {
				t.Errorf("%q of %q was handed on: %v", handed, items, !want)
			}
			for at := range handed {
				for _, text := range []string{"c", "aa", "abc", "\x00"} {
					s.Handed = slices.Clone(handed)
					s.Handed[at] = text
					if impl.GoodSession(s) {
						t.Errorf("%q of %q was handed on: true", s.Handed, items)
					}
				}
			}
			s.Handed = append(slices.Clone(items), handed...)
			if want := len(handed) == 0; impl.GoodSession(s) != want {
				t.Errorf("%q of %q was handed on: %v", s.Handed, items, !want)
			}
		}
	}
}

// stepRow is a step with the session that it leads to, or none where it can't be done.
type stepRow struct {
	given, step, want string
}

func stepRows(t *testing.T, rows []stepRow) {
	t.Helper()
	for _, row := range rows {
		given, x := session(row.given), sesStep(row.step)
		var want impl.Session
		if row.want != "" {
			want = session(row.want)
		}
		if got, ok := impl.StepSession(given, x); !sameSession(got, want) || ok != (row.want != "") {
			t.Errorf("%s: %s: %s, %v; want %s", row.given, row.step, shownSession(got), ok, shownSession(want))
		}
		if !sameSession(given, session(row.given)) {
			t.Errorf("%s: %s: it was written into: %s", row.given, row.step, shownSession(given))
		}
		steppedAs(t, row.given, given, x)
	}
}

// steppedAs holds a step against the reference.
func steppedAs(t *testing.T, name string, s impl.Session, x impl.SesStep) (impl.Session, bool) {
	t.Helper()
	want, okWant := wantStepped(s, x)
	got, ok := impl.StepSession(s, x)
	if !sameSession(got, want) || ok != okWant {
		t.Errorf("%s: StepSession(%s, %d %d %.40q) = %s, %v; want %s, %v", name, shownSession(s), x.Kind, x.K, x.Text, shownSession(got), ok, shownSession(want), okWant)
	}
	if ok && !impl.GoodSession(got) {
		t.Errorf("%s: StepSession(%s, %d %d %.40q) is not good: %s", name, shownSession(s), x.Kind, x.K, x.Text, shownSession(got))
	}
	return got, ok
}

func TestPushByHand(t *testing.T) {
	twenty := strings.Repeat("x", 20)
	full := " " + timesOnWay(12, "1.0") + " " + timesOnWay(12, "1.1")
	stepRows(t, []stepRow{
		{"1 0 0 a - -", "push b", "1 0 0 a,b - -"},
		{"1 0 0 - - -", "push a", "1 0 0 a - -"},
		{"1 0 0 a - -", "push a", "1 0 0 a,a - -"},
		{"1 0 0 a - -", "push _", "1 0 0 a,_ - -"},
		{"1 0 0 a - -", "push " + twenty, "1 0 0 a," + twenty + " - -"},
		{"1 0 0 a - -", "push x" + twenty, ""},
		{"1 1 1 a 1.0 1.1", "push b", "1 1 1 a,b 1.0 1.1"},
		{"1000 1 2 a,b,c 3.1,1000.2 1.0,1000.2", "push d", "1000 1 2 a,b,c,d 3.1,1000.2 1.0,1000.2"},
		{"1 0 1 a" + full, "push b", "1 0 1 a,b" + full},
		{"1 0 0 " + letters(28) + " - -", "push " + string(rune('A'+28)), "1 0 0 " + letters(29) + " - -"},
		{"1 0 0 " + letters(29) + " - -", "push " + string(rune('A'+29)), "1 0 0 " + letters(30) + " - -"},
		{"1 0 0 " + letters(30) + " - -", "push _", ""},
		{"1 30 30 " + letters(30) + " - -", "push a", ""},
	})
}

func TestSendByHand(t *testing.T) {
	stepRows(t, []stepRow{
		{"1 0 0 a - -", "send 0", "1 0 0 a 1.0 -"},
		{"1 0 0 a - -", "send 1", ""},
		{"1 0 0 a - -", "send -1", ""},
		{"1 0 0 - - -", "send 0", ""},
		{"1 0 0 a,b 1.0 1.0", "send 0", "1 0 0 a,b 1.0,1.0 1.0"},
		{"3 0 0 a,b 1.0 -", "send 1", "3 0 0 a,b 1.0,3.1 -"},
		{"1000 0 0 a - -", "send 0", "1000 0 0 a 1000.0 -"},
		{"1 0 0 a,b,c,d,e,f - -", "send 3", "1 0 0 a,b,c,d,e,f 1.3 -"},
		{"1 0 0 a,b,c,d,e,f - -", "send 4", ""},
		{"1 0 0 a,b,c,d,e,f - -", "send 5", ""},
		{"1 0 2 a,b,c,d,e,f - -", "send 0", "1 0 2 a,b,c,d,e,f 1.0 -"},
		{"1 0 2 a,b,c,d,e,f - -", "send 4", ""},
		{"1 2 2 a,b,c,d,e,f,g,h - -", "send 0", ""},
		{"1 2 2 a,b,c,d,e,f,g,h - -", "send 1", ""},
		{"1 2 2 a,b,c,d,e,f,g,h - -", "send 2", "1 2 2 a,b,c,d,e,f,g,h 1.2 -"},
		{"1 2 2 a,b,c,d,e,f,g,h - -", "send 5", "1 2 2 a,b,c,d,e,f,g,h 1.5 -"},
		{"1 2 2 a,b,c,d,e,f,g,h - -", "send 6", ""},
		{"1 2 2 a,b,c,d - -", "send 3", "1 2 2 a,b,c,d 1.3 -"},
		{"1 2 2 a,b,c,d - -", "send 4", ""},
		{"1 2 2 a,b - -", "send 2", ""},
		{"1 2 2 a,b - -", "send 1", ""},
		{"1 29 29 " + letters(30) + " - -", "send 29", "1 29 29 " + letters(30) + " 1.29 -"},
		{"1 29 29 " + letters(30) + " - -", "send 30", ""},
		{"1 0 0 a,b " + timesOnWay(11, "1.0") + " -", "send 1", "1 0 0 a,b " + timesOnWay(11, "1.0") + ",1.1 -"},
		{"1 0 0 a,b " + timesOnWay(12, "1.0") + " -", "send 1", ""},
		{"2 0 0 a,b " + timesOnWay(12, "1.0") + " -", "send 0", ""},
		{"1 0 1 a,b - " + timesOnWay(12, "1.1"), "send 1", "1 0 1 a,b 1.1 " + timesOnWay(12, "1.1")},
		{"1 0 0 a,b - -", "send " + fmt.Sprint(math.MinInt), ""},
		{"1 0 0 a,b - -", "send " + fmt.Sprint(math.MaxInt), ""},
		{"1 2 2 a,b,c - -", "send " + fmt.Sprint(math.MaxInt), ""},
	})
}

func TestTakeByHand(t *testing.T) {
	full, nearly := timesOnWay(12, "1.0"), timesOnWay(11, "1.0")
	stepRows(t, []stepRow{
		// The next one.
		{"1 0 0 a,b 1.0 -", "take 0", "1 0 1 a,b - 1.1"},
		{"1 0 0 _ 1.0 -", "take 0", "1 0 1 _ - 1.1"},
		{"1 0 1 a,b 1.1 -", "take 0", "1 0 2 a,b - 1.2"},
		{"1 1 1 a,b 1.1 1.1", "take 0", "1 1 2 a,b - 1.1,1.2"},
		{"5 0 2 a,b,c 5.2 1.0,4.1", "take 0", "5 0 3 a,b,c - 1.0,4.1,5.3"},
		// Another one.
		{"1 0 1 a,b 1.0 -", "take 0", "1 0 1 a,b - 1.1"},
		{"1 1 3 a,b,c 1.0 -", "take 0", "1 1 3 a,b,c - 1.3"},
		{"1 0 0 a,b 1.1 -", "take 0", "1 0 0 a,b - 1.0"},
		{"1 0 1 a,b,c,d 1.3 1.1", "take 0", "1 0 1 a,b,c,d - 1.1,1.1"},
		{"1 0 0 a,a 1.1 -", "take 0", "1 0 0 a,a - 1.0"},
		{"1 0 1 a,a 1.0 -", "take 0", "1 0 1 a,a - 1.1"},
		// One of an elder epoch.
		{"2 0 0 a,b 1.0 -", "take 0", "2 0 0 a,b - -"},
		{"2 0 1 a,b 1.0 1.1", "take 0", "2 0 1 a,b - 1.1"},
		{"1000 0 0 a,b 999.0,1000.0 -", "take 0", "1000 0 0 a,b 1000.0 -"},
		{"1000 0 0 a,b 999.0,1000.0 -", "take 1", "1000 0 1 a,b 999.0 1000.1"},
		// One of several.
		{"1 0 0 a,b,c 1.1,1.0,1.2 1.0", "take 0", "1 0 0 a,b,c 1.0,1.2 1.0,1.0"},
		{"1 0 0 a,b,c 1.1,1.0,1.2 1.0", "take 1", "1 0 1 a,b,c 1.1,1.2 1.0,1.1"},
		{"1 0 0 a,b,c 1.1,1.0,1.2 1.0", "take 2", "1 0 0 a,b,c 1.1,1.0 1.0,1.0"},
		{"1 0 0 a,b,c 1.1,1.0,1.2 1.0", "take 3", ""},
		{"1 0 0 a,b,c 1.1,1.0,1.2 1.0", "take -1", ""},
		{"1 0 0 a,b - -", "take 0", ""},
		{"1 0 0 a,b - 1.0", "take 0", ""},
		{"1 0 0 a,b " + timesOnWay(12, "1.1") + " -", "take 11", "1 0 0 a,b " + timesOnWay(11, "1.1") + " 1.0"},
		{"1 0 0 a,b " + timesOnWay(12, "1.1") + " -", "take 12", ""},
		// Where there is no room for an ack, or for one.
		{"1 0 0 a,b 1.0 " + full, "take 0", "1 0 1 a,b - " + full},
		{"1 0 0 a,b 1.1 " + full, "take 0", "1 0 0 a,b - " + full},
		{"2 0 0 a,b 1.0 " + full, "take 0", "2 0 0 a,b - " + full},
		{"1 0 0 a,b 1.0 " + nearly, "take 0", "1 0 1 a,b - " + nearly + ",1.1"},
		{"2 0 0 a,b 1.0 " + nearly, "take 0", "2 0 0 a,b - " + nearly},
		{"1 0 0 a,b 1.0 -", "take " + fmt.Sprint(math.MinInt), ""},
		{"1 0 0 a,b 1.0 -", "take " + fmt.Sprint(math.MaxInt), ""},
	})
}

func TestAckByHand(t *testing.T) {
	stepRows(t, []stepRow{
		{"1 0 2 a,b - 1.2", "ack 0", "1 2 2 a,b - -"},
		{"1 0 2 a,b - 1.1", "ack 0", "1 1 2 a,b - -"},
		{"1 1 2 a,b - 1.1", "ack 0", "1 1 2 a,b - -"},
		{"1 2 2 a,b - 1.1", "ack 0", "1 2 2 a,b - -"},
		{"1 2 2 a,b - 1.0", "ack 0", "1 2 2 a,b - -"},
		{"1 0 0 a,b - 1.0", "ack 0", "1 0 0 a,b - -"},
		{"2 0 2 a,b - 1.2", "ack 0", "2 0 2 a,b - -"},
		{"1000 0 2 a,b - 999.2", "ack 0", "1000 0 2 a,b - -"},
		{"1000 0 2 a,b - 1000.2", "ack 0", "1000 2 2 a,b - -"},
		{"2 1 3 a,b,c 1.1,2.2 1.3,2.2,2.3", "ack 0", "2 1 3 a,b,c 1.1,2.2 2.2,2.3"},
		{"2 1 3 a,b,c 1.1,2.2 1.3,2.2,2.3", "ack 1", "2 2 3 a,b,c 1.1,2.2 1.3,2.3"},
		{"2 1 3 a,b,c 1.1,2.2 1.3,2.2,2.3", "ack 2", "2 3 3 a,b,c 1.1,2.2 1.3,2.2"},
		{"2 1 3 a,b,c 1.1,2.2 1.3,2.2,2.3", "ack 3", ""},
		{"2 1 3 a,b,c 1.1,2.2 1.3,2.2,2.3", "ack -1", ""},
		{"1 0 1 a,b 1.0 -", "ack 0", ""},
		{"1 0 1 a - " + timesOnWay(12, "1.1"), "ack 11", "1 1 1 a - " + timesOnWay(11, "1.1")},
		{"1 0 1 a - " + timesOnWay(12, "1.1"), "ack 12", ""},
		{"1 0 2 a,b - 1.2", "ack " + fmt.Sprint(math.MinInt), ""},
		{"1 0 2 a,b - 1.2", "ack " + fmt.Sprint(math.MaxInt), ""},
	})
}

func TestLoseAndTwiceByHand(t *testing.T) {
	stepRows(t, []stepRow{
		{"1 0 0 a 1.0 -", "lose 0", "1 0 0 a - -"},
		{"2 1 1 a,b,c 1.0,2.1,2.2 1.0,2.1", "lose 0", "2 1 1 a,b,c 2.1,2.2 1.0,2.1"},
		{"2 1 1 a,b,c 1.0,2.1,2.2 1.0,2.1", "lose 1", "2 1 1 a,b,c 1.0,2.2 1.0,2.1"},
		{"2 1 1 a,b,c 1.0,2.1,2.2 1.0,2.1", "lose 2", "2 1 1 a,b,c 1.0,2.1 1.0,2.1"},
		{"2 1 1 a,b,c 1.0,2.1,2.2 1.0,2.1", "lose 3", ""},
		{"2 1 1 a,b,c 1.0,2.1,2.2 1.0,2.1", "lose -1", ""},
		{"1 0 1 a - 1.0,1.1", "lose 0", ""},
		{"1 0 0 a " + timesOnWay(12, "1.0") + " -", "lose 11", "1 0 0 a " + timesOnWay(11, "1.0") + " -"},
		{"1 0 0 a " + timesOnWay(12, "1.0") + " -", "lose 12", ""},
		{"1 0 0 a 1.0 -", "lose " + fmt.Sprint(math.MinInt), ""},
		{"1 0 0 a 1.0 -", "lose " + fmt.Sprint(math.MaxInt), ""},

		{"1 0 0 a 1.0 -", "twice 0", "1 0 0 a 1.0,1.0 -"},
		{"2 1 1 a,b,c 1.0,2.1,2.2 1.0,2.1", "twice 0", "2 1 1 a,b,c 1.0,2.1,2.2,1.0 1.0,2.1"},
		{"2 1 1 a,b,c 1.0,2.1,2.2 1.0,2.1", "twice 1", "2 1 1 a,b,c 1.0,2.1,2.2,2.1 1.0,2.1"},
		{"2 1 1 a,b,c 1.0,2.1,2.2 1.0,2.1", "twice 2", "2 1 1 a,b,c 1.0,2.1,2.2,2.2 1.0,2.1"},
		{"2 1 1 a,b,c 1.0,2.1,2.2 1.0,2.1", "twice 3", ""},
		{"2 1 1 a,b,c 1.0,2.1,2.2 1.0,2.1", "twice -1", ""},
		{"1 0 1 a - 1.0,1.1", "twice 0", ""},
		{"1 0 0 a,b 1.1," + timesOnWay(10, "1.0") + " -", "twice 0", "1 0 0 a,b 1.1," + timesOnWay(10, "1.0") + ",1.1 -"},
		{"1 0 0 a,b 1.1," + timesOnWay(11, "1.0") + " -", "twice 0", ""},
		{"1 0 0 a,b 1.1," + timesOnWay(11, "1.0") + " -", "twice 11", ""},
		{"1 0 0 a 1.0 -", "twice " + fmt.Sprint(math.MinInt), ""},
		{"1 0 0 a 1.0 -", "twice " + fmt.Sprint(math.MaxInt), ""},
	})
}

func TestCutByHand(t *testing.T) {
	full := timesOnWay(4, "1.0,2.1,3.2") + " " + timesOnWay(4, "1.0,2.1,3.2")
	stepRows(t, []stepRow{
		{"1 0 0 - - -", "cut", "2 0 0 - - -"},
		{"1 0 0 a - -", "cut", "2 0 0 a - -"},
		{"1 0 2 a,b,c - -", "cut", "2 2 2 a,b,c - -"},
		{"1 2 2 a,b,c - -", "cut", "2 2 2 a,b,c - -"},
		{"1 1 3 a,b,c - -", "cut", "2 3 3 a,b,c - -"},
		{"3 1 2 a,b,c,d 1.0,3.3 2.1,3.2", "cut", "4 2 2 a,b,c,d 1.0,3.3 2.1,3.2"},
		{"3 0 2 a,b,c " + full, "cut", "4 2 2 a,b,c " + full},
		{"999 0 1 a,b 999.1 -", "cut", "1000 1 1 a,b 999.1 -"},
		{"1000 0 1 a,b 999.1 -", "cut", ""},
		{"1000 1 1 a,b - -", "cut", ""},
	})
}

func TestStepsOfNoKind(t *testing.T) {
	for _, kind := range []int{math.MinInt, -7, -1, 0, 8, 9, 1 << 32, 1<<32 + 1, math.MaxInt} {
		for _, k := range []int{-1, 0, 1} {
			x := impl.SesStep{Kind: kind, K: k, Text: "b"}
			if got, ok := impl.StepSession(session("2 0 1 a,b,c 1.0,2.1 2.1,2.0"), x); !sameSession(got, impl.Session{}) || ok {
				t.Errorf("kind %d: %s, %v", kind, shownSession(got), ok)
			}
		}
	}
}

// The document names no field for them that the kind does not need, and asks none to be zero.
func TestFieldsThatAKindDoesNotNameAreNotAsked(t *testing.T) {
	texts := []string{"", "b", strings.Repeat("b", 21), strings.Repeat("b", 1<<16)}
	places := []int{math.MinInt, -1, 0, 1, 5, 13, 31, math.MaxInt}
	for name, s := range goodSessions() {
		for _, x := range manySteps() {
			want, okWant := wantStepped(s, x)
			var others []impl.SesStep
			if x.Kind != impl.SesPush {
				for _, text := range texts {
					others = append(others, impl.SesStep{Kind: x.Kind, K: x.K, Text: text})
				}
			}
			if x.Kind == impl.SesPush || x.Kind == impl.SesCut {
				for _, k := range places {
					others = append(others, impl.SesStep{Kind: x.Kind, K: k, Text: x.Text})
				}
			}
			for _, other := range others {
				if got, ok := impl.StepSession(s, other); !sameSession(got, want) || ok != okWant {
					t.Errorf("%s: StepSession(%s, %d %d %.40q) = %s, %v; want %s, %v", name, shownSession(s), other.Kind, other.K, other.Text, shownSession(got), ok, shownSession(want), okWant)
				}
			}
		}
	}
}

func TestStepSessionOfSessionsAndSteps(t *testing.T) {
	done, refused := map[int]int{}, map[int]int{}
	for name, s := range goodSessions() {
		for _, x := range manySteps() {
			if _, ok := steppedAs(t, name, s, x); ok {
				done[x.Kind]++
			} else {
				refused[x.Kind]++
			}
		}
	}
	for kind := impl.SesPush; kind <= impl.SesCut; kind++ {
		if done[kind] < 20 || refused[kind] < 5 {
			t.Errorf("kind %d: too few can be done, or can't: %d, %d", kind, done[kind], refused[kind])
		}
	}
	for name, s := range wrongSessions() {
		for _, x := range manySteps() {
			if got, ok := impl.StepSession(s, x); !sameSession(got, impl.Session{}) || ok {
				t.Errorf("%s: StepSession(%s, %d %d %.40q) = %s, %v", name, shownSession(s), x.Kind, x.K, x.Text, shownSession(got), ok)
			}
		}
	}
}

func TestPendingIn(t *testing.T) {
	for _, row := range []struct {
		given string
		want  []string
	}{
		{"1 0 0 - - -", nil},
		{"1 0 0 a - -", []string{"a"}},
		{"1 0 1 a - -", nil},
		{"1 0 0 a,b,c 1.0,1.1 -", []string{"a", "b", "c"}},
		{"1 0 1 a,b,c 1.1 1.1", []string{"b", "c"}},
		{"2 1 1 a,b,c 1.1 1.1", []string{"b", "c"}},
		{"1 0 2 a,b,_ - -", []string{""}},
		{"1000 2 3 a,b,c - -", nil},
		{"1 0 2 a,a,a,a - -", []string{"a", "a"}},
		{"1 29 29 " + letters(30) + " - -", []string{string(rune('A' + 29))}},
		{"1 30 30 " + letters(30) + " - -", nil},
	} {
		if got, ok := impl.PendingIn(session(row.given)); !slices.Equal(got, row.want) || !ok {
			t.Errorf("PendingIn(%s) = %q, %v; want %q, true", row.given, got, ok, row.want)
		}
	}
	for name, s := range goodSessions() {
		want, _ := wantPending(s)
		got, ok := impl.PendingIn(s)
		if !slices.Equal(got, want) || !ok || !slices.Equal(append(slices.Clone(s.Handed), got...), s.Items) {
			t.Errorf("%s: PendingIn(%s) = %q, %v; want %q, true", name, shownSession(s), got, ok, want)
		}
	}
	for name, s := range wrongSessions() {
		if got, ok := impl.PendingIn(s); got != nil || ok {
			t.Errorf("%s: PendingIn(%s) = %q, %v", name, shownSession(s), got, ok)
		}
	}
}
