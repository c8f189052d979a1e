package tests

import (
	"maps"
	"math"
	"math/rand"
	"slices"
	"strconv"
	"strings"
	"testing"

	"loop.example/g00333/impl"
)

// publishedAs holds Publish, and WouldGet of each fan and of one that is not there, against the references.
func publishedAs(t *testing.T, name string, b impl.Broker, p impl.Post) (impl.Broker, int, int, bool) {
	t.Helper()
	want, wantCode, wantNo, okWant := wantPublished(b, p)
	got, code, no, ok := impl.Publish(b, p)
	if !sameBroker(got, want) || code != wantCode || no != wantNo || ok != okWant {
		t.Errorf("%s: Publish(%s, %.80q) = %s, %d, %d, %v; want %s, %d, %d, %v", name, shownBroker(b), p, shownBroker(got), code, no, ok, shownBroker(want), wantCode, wantNo, okWant)
	}
	if ok && !impl.GoodBroker(got) {
		t.Errorf("%s: Publish(%s, %.80q) made what is not good", name, shownBroker(b), p)
	}
	whos := []int{-1, 0, 7, 100, 101}
	for _, f := range b.Fans[:min(len(b.Fans), 5)] {
		whos = append(whos, f.Who)
	}
	for _, who := range whos {
		wouldAs(t, name, b, who, p)
	}
	return got, code, no, ok
}

func wouldAs(t *testing.T, name string, b impl.Broker, who int, p impl.Post) (impl.Note, bool) {
	t.Helper()
	want, okWant := wantWould(b, who, p)
	n, ok := impl.WouldGet(b, who, p)
	if n != want || ok != okWant {
		t.Errorf("%s: WouldGet(%s, %d, %.80q) = %v, %v; want %v, %v", name, shownBroker(b), who, p, n, ok, want, okWant)
	}
	return n, ok
}

// publishRow is a broker, a post, the code and No that are told, and the broker that is left; where this is empty it is
// the given one.
type publishRow struct {
	given, post string
	code, no    int
	want        string
}

func publishRows(t *testing.T, rows []publishRow) {
	t.Helper()
	for _, row := range rows {
		want, given := broker(row.want), broker(row.given)
		if row.want == "" {
			want = broker(row.given)
		}
		got, code, no, ok := impl.Publish(given, post(row.post))
		if !sameBroker(got, want) || code != row.code || no != row.no || !ok {
			t.Errorf("%s, %s: %s, %d, %d, %v; want %s, %d, %d", row.given, row.post, shownBroker(got), code, no, ok, shownBroker(want), row.code, row.no)
		}
		if !sameBroker(given, broker(row.given)) {
			t.Errorf("%s, %s: it was written into: %s", row.given, row.post, shownBroker(given))
		}
		publishedAs(t, row.given+", "+row.post, given, post(row.post))
	}
}

func TestPublishByHand(t *testing.T) {
	const s = "{n:1! num,s:2 text}"
	publishRows(t, []publishRow{
		// None to tell.
		{"topic a 0 " + s, "a 5", 0, 1, "topic a 1 " + s},
		{"topic a 0 {}", "a -", 0, 1, "topic a 1 {}"},
		{"topic a 0 {}", "a 5 unknown", 0, 1, "topic a 1 {}"},
		{"topic a 998 " + s, "a 5 x", 0, 999, "topic a 999 " + s},
		{"topic a 999 " + s, "a 5 x", 0, 1000, "topic a 1000 " + s},

		// The fan sees what its View has.
		{"topic a 0 " + s + "; fan 7 a 0 1? {n:1! num}", "a 5 x", 0, 1, "topic a 1 " + s + "; fan 7 a 0 1? {n:1! num}; note a 1 5"},
		{"topic a 0 " + s + "; fan 7 a 0 1? {n:1! num}", "a 5", 0, 1, "topic a 1 " + s + "; fan 7 a 0 1? {n:1! num}; note a 1 5"},
		{"topic a 0 " + s + "; fan 7 a 0 1? {s:2 text}", "a 5 x", 0, 1, "topic a 1 " + s + "; fan 7 a 0 1? {s:2 text}; note a 1 - x"},
		{"topic a 0 " + s + "; fan 7 a 0 1? {s:2 text}", "a 5", 0, 1, "topic a 1 " + s + "; fan 7 a 0 1? {s:2 text}; note a 1 -"},
		{"topic a 0 " + s + "; fan 7 a 0 1? " + s, "a 5 x", 0, 1, "topic a 1 " + s + "; fan 7 a 0 1? " + s + "; note a 1 5 x"},
		{"topic a 0 " + s + "; fan 7 a 0 1? {}", "a 5 x", 0, 1, "topic a 1 " + s + "; fan 7 a 0 1? {}; note a 1 -"},
		{"topic a 0 {n:1! num}; fan 7 a 0 1? {n:1! num}", "a 5 unknown", 0, 1, "topic a 1 {n:1! num}; fan 7 a 0 1? {n:1! num}; note a 1 5"},

		// The Pattern fits, or not.
		{"topic a/b 2 {}; fan 7 a/+ 0 1? {}", "a/b 5", 0, 3, "topic a/b 3 {}; fan 7 a/+ 0 1? {}; note a/b 3 -"},
		{"topic a/b 2 {}; fan 7 # 0 1? {}", "a/b 5", 0, 3, "topic a/b 3 {}; fan 7 # 0 1? {}; note a/b 3 -"},
		{"topic a/b 2 {}; fan 7 a/b/# 0 1? {}", "a/b 5", 0, 3, "topic a/b 3 {}; fan 7 a/b/# 0 1? {}; note a/b 3 -"},
		{"topic a/b 2 {}; fan 7 + 0 1? {}", "a/b 5", 0, 3, "topic a/b 3 {}; fan 7 + 0 1? {}"},
		{"topic a/b 2 {}; fan 7 a 0 1? {}", "a/b 5", 0, 3, "topic a/b 3 {}; fan 7 a 0 1? {}"},
		{"topic a/b 2 {n:1! num}; fan 7 b 0 1? {n:1 text}", "a/b 5", 0, 3, "topic a/b 3 {n:1! num}; fan 7 b 0 1? {n:1 text}"},

		// The Filter matches, or not: all bytes are asked, also those that the View does not have, and unknown ones.
		{"topic a 0 " + s + "; fan 7 a 0 1>4 {n:1! num}", "a 5", 0, 1, "topic a 1 " + s + "; fan 7 a 0 1>4 {n:1! num}; note a 1 5"},
		{"topic a 0 " + s + "; fan 7 a 0 1>4 {n:1! num}", "a 4", 0, 1, "topic a 1 " + s + "; fan 7 a 0 1>4 {n:1! num}"},
		{"topic a 0 " + s + "; fan 7 a 0 2^he {n:1! num}", "a 5 hello", 0, 1, "topic a 1 " + s + "; fan 7 a 0 2^he {n:1! num}; note a 1 5"},
		{"topic a 0 " + s + "; fan 7 a 0 2^he {n:1! num}", "a 5 other", 0, 1, "topic a 1 " + s + "; fan 7 a 0 2^he {n:1! num}"},
		{"topic a 0 " + s + "; fan 7 a 0 2^he {n:1! num}", "a 5", 0, 1, "topic a 1 " + s + "; fan 7 a 0 2^he {n:1! num}"},
		{"topic a 0 {}; fan 7 a 0 1=5 {}", "a 5", 0, 1, "topic a 1 {}; fan 7 a 0 1=5 {}; note a 1 -"},
		{"topic a 0 {}; fan 7 a 0 1=5 {}", "a 6", 0, 1, "topic a 1 {}; fan 7 a 0 1=5 {}"},
		{"topic a 0 {}; fan 7 a 0 !1? {}", "a 6", 0, 1, "topic a 1 {}; fan 7 a 0 !1? {}"},
		{"topic a 0 {}; fan 7 a 0 !1? {}", "a -", 0, 1, "topic a 1 {}; fan 7 a 0 !1? {}; note a 1 -"},

		// Two topics, and several fans.
		{"topic a 4 " + s + "; topic b 7 {n:1! num}; fan 7 + 0 1? {n:1! num}; fan 8 a 0 !2? " + s + "; fan 9 b 3 1<6 {}; fan 0 # 0 1<5 {}", "a 5 x", 0, 5,
			"topic a 5 " + s + "; topic b 7 {n:1! num}; fan 7 + 0 1? {n:1! num}; note a 5 5; fan 8 a 0 !2? " + s + "; fan 9 b 3 1<6 {}; fan 0 # 0 1<5 {}"},
		{"topic a 4 " + s + "; topic b 7 {n:1! num}; fan 7 + 0 1? {n:1! num}; fan 8 a 0 !2? " + s + "; fan 9 b 3 1<6 {}; fan 0 # 0 1<5 {}", "a 4", 0, 5,
			"topic a 5 " + s + "; topic b 7 {n:1! num}; fan 7 + 0 1? {n:1! num}; note a 5 4; fan 8 a 0 !2? " + s + "; note a 5 4; fan 9 b 3 1<6 {}; fan 0 # 0 1<5 {}; note a 5 -"},
		{"topic a 4 " + s + "; topic b 7 {n:1! num}; fan 7 + 0 1? {n:1! num}; fan 8 a 0 !2? " + s + "; fan 9 b 3 1<6 {}; fan 0 # 0 1<5 {}", "b 5 x", 0, 8,
			"topic a 4 " + s + "; topic b 8 {n:1! num}; fan 7 + 0 1? {n:1! num}; note b 8 5; fan 8 a 0 !2? " + s + "; fan 9 b 3 1<6 {}; note b 8 -; fan 0 # 0 1<5 {}"},

		// It goes behind all that is there, of whatever topic and No.
		{"topic a 3 {n:1! num}; topic b 9 {n:1! num}; fan 7 + 5 1? {n:1! num}; note a 2 1; note b 9 2", "a 3", 0, 4,
			"topic a 4 {n:1! num}; topic b 9 {n:1! num}; fan 7 + 5 1? {n:1! num}; note a 2 1; note b 9 2; note a 4 3"},
	})
}

func TestPublishOfEachCodeByHand(t *testing.T) {
	const given = "topic a 3 {n:1! num,s:2 text}; topic a/b 1000 {n:1! num,s:2 text}; fan 7 # 2 1? {n:1! num}; note a 1 4; fan 8 a/b 0 1? {n:1! num}; note a/b 1000 4"
	publishRows(t, []publishRow{
		{given, "b 5", 1, 0, ""},
		{given, " 5", 1, 0, ""},
		{given, "+ 5", 1, 0, ""},
		{given, "# 5", 1, 0, ""},
		{given, "a/+ 5", 1, 0, ""},
		{given, "a/ 5", 1, 0, ""},
		{given, "A 5", 1, 0, ""},
		{"", "a 5", 1, 0, ""},
		{"fan 7 # 2 1? {n:1! num}", "a 5", 1, 0, ""},

		{given, "a -", 3, 0, ""},
		{given, "a - x", 3, 0, ""},
		{given, "a 1000000001", 3, 0, ""},
		{given, "a 5 " + strings.Repeat("x", 31), 3, 0, ""},
		{given, "a/b 5", 4, 0, ""},
		{given, "a/b 5 x", 4, 0, ""},

		// Of two faults the first one.
		{given, "b -", 1, 0, ""},
		{given, "b 5 " + strings.Repeat("x", 400), 1, 0, ""},
		{given, "a 5 " + strings.Repeat("x", 400), 2, 0, ""},
		{given, "a - " + strings.Repeat("x", 398), 2, 0, ""},
		{given, "a/b 5 " + strings.Repeat("x", 400), 2, 0, ""},
		{given, "a/b -", 3, 0, ""},
		{given, "a/b - " + strings.Repeat("x", 500), 2, 0, ""},
	})
}

// faultyPost has all of the faults that the letters tell: t, l, b and f, in the document's order.
func faultyPost(faults string) (impl.Broker, impl.Post) {
	b := broker("topic a 3 {n:1! num}; fan 7 + 0 1? {n:1! num}; note a 3 5; fan 8 # 0 !30? {}")
	p := impl.Post{Topic: "a", Bytes: wireField(number(1, 5))}
	if strings.Contains(faults, "t") {
		p.Topic = "b"
	}
	if strings.Contains(faults, "b") {
		p.Bytes = wireField(data(1, ""))
	}
	if strings.Contains(faults, "l") {
		p.Bytes += wireField(data(2, strings.Repeat("x", 399)))
	}
	if strings.Contains(faults, "f") {
		b.Topics[0].Count = 1000
	}
	return b, p
}

func TestPublishOfAllFaultsTogether(t *testing.T) {
	for which := range 16 {
		faults := ""
		for i, letter := range []string{"t", "l", "b", "f"} {
			if which>>i&1 == 1 {
				faults += letter
			}
		}
		b, p := faultyPost(faults)
		want, wantNo := 0, 0
		if faults == "" {
			wantNo = 4
		} else {
			want = 1 + strings.Index("tlbf", faults[:1])
		}
		got, code, no, ok := publishedAs(t, faults, b, p)
		if code != want || no != wantNo || !ok {
			t.Errorf("faults %q: code %d, No %d, %v; want %d", faults, code, no, ok, want)
		}
		if code != 0 && !sameBroker(got, b) {
			t.Errorf("faults %q: it is not as it was: %s", faults, shownBroker(got))
		}
	}
}

func TestPublishOfBytesByTheirLength(t *testing.T) {
	b := broker("topic a 3 {s:2 text}; fan 7 a 0 !1? {}")
	for bytes := 380; bytes < 420; bytes++ {
		// What is unknown may be of any length.
		said := wireField(data(3, strings.Repeat("x", bytes-3)))
		got, code, no, _ := publishedAs(t, "valid bytes", b, impl.Post{Topic: "a", Bytes: said})
		if isRight := bytes <= 400; isRight != (code == 0 && no == 4 && got.Topics[0].Count == 4) || !isRight && code != impl.PubLarge {
			t.Errorf("%d bytes: code %d, No %d", bytes, code, no)
		}
		for _, wrong := range []string{strings.Repeat("\x00", bytes), wireField(data(2, strings.Repeat("x", bytes-3))), said[:bytes-1], said + "\x08"} {
			want := impl.PubBytes
			if len(wrong) > 400 {
				want = impl.PubLarge
			}
			if _, code, no, _ := publishedAs(t, "wrong bytes", b, impl.Post{Topic: "a", Bytes: wrong}); code != want || no != 0 {
				t.Errorf("%d wrong bytes: code %d, No %d", len(wrong), code, no)
			}
		}
	}
}

func TestPublishUpToTheLastNumber(t *testing.T) {
	for _, count := range []int{0, 1, 2, 500, 998, 999, 1000} {
		b := broker("topic a 0 {n:1! num}; topic b 1000 {}; fan 7 # 0 1? {}")
		b.Topics[0].Count = count
		_, code, no, _ := publishedAs(t, "a", b, post("a 5"))
		if isRight := count < 1000; isRight != (code == impl.PubOk && no == count+1) || !isRight && (code != impl.PubFull || no != 0) {
			t.Errorf("a Count of %d: code %d, No %d", count, code, no)
		}
		if _, code, no, _ := publishedAs(t, "b", b, post("b 5")); code != impl.PubFull || no != 0 {
			t.Errorf("b is full: code %d, No %d", code, no)
		}
	}
}

// Where the Inbox is full the first note goes; Lost tells so as long as it can.
func TestPublishToInboxesByTheirLength(t *testing.T) {
	for many := range 11 {
		for _, lost := range []int{0, 1, 99998, 99999, 100000} {
			b := broker("topic a 100 {n:1! num}; topic b 50 {}; fan 3 b 0 1? {}; fan 7 a 0 1? {n:1! num}; fan 8 # 0 1? {}")
			b.Fans[1].Inbox, b.Fans[1].Lost = notesOf("a", 91, 90+many), lost
			b.Fans[2].Inbox, b.Fans[2].Lost = slices.Repeat(broker("fan 0 a 0 1? {}; note b 1 -").Fans[0].Inbox, 10), lost
			for i := range b.Fans[2].Inbox {
				b.Fans[2].Inbox[i].No += i
			}
			got, code, no, ok := publishedAs(t, "many", b, post("a 101"))
			first, wantLost := 91, lost
			if many == 10 {
				first, wantLost = 92, min(lost+1, 100000)
			}
			f := got.Fans[1]
			if !slices.Equal(f.Inbox, notesOf("a", first, 90+many)) && !slices.Equal(f.Inbox, append(notesOf("a", first, 90+many), note("a 101 101"))) {
				t.Errorf("of %d notes: %v", many, f.Inbox)
			}
			if last := len(f.Inbox) - 1; f.Inbox[last] != note("a 101 101") || len(f.Inbox) != min(many+1, 10) || f.Lost != wantLost || code != 0 || no != 101 || !ok {
				t.Errorf("of %d notes, %d lost: %v, %d, code %d, No %d", many, lost, f.Inbox, f.Lost, code, no)
			}
			// What goes is the first note, of whatever topic.
			if g := got.Fans[2]; len(g.Inbox) != 10 || g.Inbox[0] != note("b 2 -") || g.Inbox[9] != note("a 101 -") || g.Lost != min(lost+1, 100000) {
				t.Errorf("of ten notes of another topic, %d lost: %v, %d", lost, g.Inbox, g.Lost)
			}
			if !sameFan(got.Fans[0], b.Fans[0]) {
				t.Errorf("whom it does not concern: %v", got.Fans[0])
			}
		}
	}
}

// A full Inbox loses nothing by what does not concern the fan, or is not right.
func TestPublishOfWhatDoesNotConcernAFullInbox(t *testing.T) {
	b := broker("topic a 100 {n:1! num}; topic b 50 {n:1! num}; topic c 1000 {n:1! num}; fan 7 a 5 1>7 {n:1! num}")
	b.Fans[0].Inbox = notesOf("a", 91, 100)
	for _, p := range posts("a 7", "b 8", "c 8", "d 8", "a -", "b -", "a 8 "+strings.Repeat("x", 400)) {
		got, _, _, _ := publishedAs(t, "none", b, p)
		if !sameFan(got.Fans[0], b.Fans[0]) {
			t.Errorf("%.40q: %v", p, got.Fans[0])
		}
	}
}

// Where no value of at most MaxNodes nodes tells the bytes DownTo tells false, and the fan gets nothing.
func TestPublishToFansThatCannotSeeIt(t *testing.T) {
	b := broker("topic a 0 {l:1 [num],m:2 num}; fan 1 a 0 1? {l:1 [num]}; fan 2 a 0 1? {l:1 [num],m:2 num}; fan 3 a 0 1? {m:2 num}; fan 4 a 0 1? {}")
	for items := range 60 {
		said := wireOf(data(1, strings.Repeat("\x02", items)), number(2, 5))
		got, code, no, _ := publishedAs(t, "items", b, impl.Post{Topic: "a", Bytes: said})
		if code != 0 || no != 1 {
			t.Errorf("%d items: code %d, No %d", items, code, no)
		}
		for i, most := range []int{38, 37, 1 << 16, 1 << 16} {
			if gets := len(got.Fans[i].Inbox) == 1; gets != (items <= most) {
				t.Errorf("%d items: fan %d gets it: %v", items, got.Fans[i].Who, gets)
			}
			if _, would := impl.WouldGet(b, i+1, impl.Post{Topic: "a", Bytes: said}); would != (items <= most) {
				t.Errorf("%d items: fan %d would get it: %v", items, i+1, would)
			}
		}
		if n := got.Fans[2].Inbox[0]; n != (impl.Note{Topic: "a", No: 1, Bytes: wireField(number(2, 5))}) {
			t.Errorf("%d items: %v", items, n)
		}
		if n := got.Fans[3].Inbox[0]; n != (impl.Note{Topic: "a", No: 1}) {
			t.Errorf("%d items: %v", items, n)
		}
	}
}

func TestWouldGetByHand(t *testing.T) {
	const given = "topic a 3 {n:1! num,s:2 text}; topic b 1000 {n:1! num}; topic c 999 {n:1! num}; fan 7 + 2 1>3 {n:1! num}; note a 3 4; fan 0 a 0 !2? {n:1! num,s:2 text}; fan 100 a/# 0 2? {s:2 text}; fan 9 z 0 1? {}"
	for _, row := range []struct {
		who  int
		post string
		want string
	}{
		{7, "a 5", "a 4 5"},
		{7, "a 5 x", "a 4 5"},
		{7, "a 3", ""},
		{7, "c 4", "c 1000 4"},
		{7, "b 4", ""},
		{7, "a -", ""},
		{7, "d 5", ""},
		{7, "a 5 " + strings.Repeat("x", 31), ""},
		{7, "a 5 " + strings.Repeat("x", 400), ""},
		{0, "a 5", "a 4 5"},
		{0, "a -7", "a 4 -7"},
		{0, "a 5 x", ""},
		{0, "c 5", ""},
		{100, "a 5", ""},
		{100, "a 5 x", "a 4 - x"},
		{100, "a 5 ", "a 4 - "},
		{9, "a 5", ""},
		{8, "a 5", ""},
		{-1, "a 5", ""},
		{101, "a 5", ""},
		{math.MaxInt, "a 5", ""},
	} {
		var want impl.Note
		if row.want != "" {
			want = note(row.want)
		}
		b := broker(given)
		if n, ok := impl.WouldGet(b, row.who, post(row.post)); n != want || ok != (row.want != "") {
			t.Errorf("%d, %.40s: %v, %v; want %v", row.who, row.post, n, ok, want)
		}
		wouldAs(t, row.post, b, row.who, post(row.post))
	}
}

func TestPublishToGoodBrokersAndOthers(t *testing.T) {
	r := rand.New(rand.NewSource(172))
	codes := map[int]int{}
	good := goodBrokers()
	for _, name := range slices.Sorted(maps.Keys(good)) {
		b := good[name]
		for range 25 {
			_, code, _, ok := publishedAs(t, name, b, drawnPost(r, b))
			if codes[code]++; !ok {
				t.Errorf("%s: Publish tells false", name)
			}
		}
		for _, topic := range b.Topics {
			publishedAs(t, name, b, impl.Post{Topic: topic.Name})
			publishedAs(t, name, b, impl.Post{Topic: topic.Name, Bytes: defaultBytes(topic.Schema)})
		}
	}
	for name, b := range wrongBrokers() {
		for _, p := range posts("a 5", "a -", "a - x", "b 5", "b/c 5 x", "z 5", "a 5 "+strings.Repeat("x", 400)) {
			got, code, no, ok := impl.Publish(b, p)
			if !sameBroker(got, impl.Broker{}) || code != 0 || no != 0 || ok {
				t.Errorf("%s: Publish %.40q = %s, %d, %d, %v", name, p, shownBroker(got), code, no, ok)
			}
			for _, who := range []int{0, 1, 7, 8} {
				if n, ok := impl.WouldGet(b, who, p); n != (impl.Note{}) || ok {
					t.Errorf("%s: WouldGet %d, %.40q = %v, %v", name, who, p, n, ok)
				}
			}
		}
	}
	for code := range 5 {
		if codes[code] < 20 {
			t.Error("too few of a code:", codes)
		}
	}
}

func playedPostsAs(t *testing.T, name string, b impl.Broker, l []impl.Post) (impl.Broker, []int, bool) {
	t.Helper()
	want, wantCodes, okWant := wantPlayedPosts(b, l)
	got, codes, ok := impl.PlayPosts(b, l)
	if !sameBroker(got, want) || !slices.Equal(codes, wantCodes) || ok != okWant {
		t.Errorf("%s: PlayPosts(%s, %d posts) = %s, %v, %v; want %s, %v, %v", name, shownBroker(b), len(l), shownBroker(got), codes, ok, shownBroker(want), wantCodes, okWant)
	}
	return got, codes, ok
}

func TestPlayPostsByHand(t *testing.T) {
	const given = "topic a 0 {n:1! num,s:2 text}; topic b 998 {n:1! num}; fan 7 + 0 1>3 {n:1! num}; fan 8 b 0 1? {}"
	for _, row := range []struct {
		posts []string
		codes []int
		want  string
	}{
		{nil, nil, given},
		{[]string{"a 4 x"}, []int{0}, "topic a 1 {n:1! num,s:2 text}; topic b 998 {n:1! num}; fan 7 + 0 1>3 {n:1! num}; note a 1 4; fan 8 b 0 1? {}"},
		{[]string{"c 4"}, []int{1}, given},
		{[]string{"a -"}, []int{3}, given},
		{[]string{"c 4", "a -", "c 5", "a 5 " + strings.Repeat("x", 400), "b - x"}, []int{1, 3, 1, 2, 3}, given},
		{[]string{"b 5", "b 4", "b 3", "b 2"}, []int{0, 0, 4, 4},
			"topic a 0 {n:1! num,s:2 text}; topic b 1000 {n:1! num}; fan 7 + 0 1>3 {n:1! num}; note b 999 5; note b 1000 4; fan 8 b 0 1? {}; note b 999 -; note b 1000 -"},
		{[]string{"b 5", "a 4", "c 6", "a 3", "a -", "a 7 x", "b 2", "b -", "b 6"}, []int{0, 0, 1, 0, 3, 0, 0, 3, 4},
			"topic a 3 {n:1! num,s:2 text}; topic b 1000 {n:1! num}; fan 7 + 0 1>3 {n:1! num}; note b 999 5; note a 1 4; note a 3 7; fan 8 b 0 1? {}; note b 999 -; note b 1000 -"},
	} {
		b, codes, ok := impl.PlayPosts(broker(given), posts(row.posts...))
		if !sameBroker(b, broker(row.want)) || !slices.Equal(codes, row.codes) || !ok {
			t.Errorf("%.60q: %s, %v, %v", row.posts, shownBroker(b), codes, ok)
		}
		playedPostsAs(t, "by hand", broker(given), posts(row.posts...))
	}
}

func TestPlayPostsByHowMany(t *testing.T) {
	const given = "topic a 950 {n:1! num}; fan 7 a 0 1? {n:1! num}"
	for _, many := range []int{0, 1, 9, 10, 11, 12, 49, 50, 51, 59, 60, 61, 62, 120, 1 << 16} {
		var l []impl.Post
		for i := range many {
			l = append(l, impl.Post{Topic: "a", Bytes: saying(strconv.Itoa(951 + i))})
		}
		b, codes, ok := playedPostsAs(t, "many", broker(given), l)
		if ok != (many <= 60) || !ok && (len(codes) > 0 || !sameBroker(b, impl.Broker{})) {
			t.Errorf("%d posts: %v, %v", many, codes, ok)
		}
		if !ok {
			continue
		}
		told := min(many, 50)
		want := broker(given)
		want.Topics[0].Count += told
		want.Fans[0].Inbox, want.Fans[0].Lost = notesOf("a", max(951, 941+told), 950+told), max(0, told-10)
		if !sameBroker(b, want) || !slices.Equal(codes, append(make([]int, told), slices.Repeat([]int{4}, many-told)...)) {
			t.Errorf("%d posts: %s, %v", many, shownBroker(b), codes)
		}
		// As many that are wrong change nothing.
		b, codes, _ = playedPostsAs(t, "many that are wrong", broker(given), slices.Repeat(posts("b 5"), many))
		if !sameBroker(b, broker(given)) || !slices.Equal(codes, slices.Repeat([]int{1}, many)) {
			t.Errorf("%d wrong posts: %s, %v", many, shownBroker(b), codes)
		}
	}
	for name, b := range wrongBrokers() {
		for _, l := range [][]impl.Post{nil, posts("a 5"), posts("z 5"), slices.Repeat(posts("a 5"), 61)} {
			if got, codes, ok := impl.PlayPosts(b, l); !sameBroker(got, impl.Broker{}) || len(codes) > 0 || ok {
				t.Errorf("%s: PlayPosts = %s, %v, %v", name, shownBroker(got), codes, ok)
			}
		}
	}
}

func TestPlayPostsIsPublishEach(t *testing.T) {
	r := rand.New(rand.NewSource(173))
	for range 150 {
		b := drawnBroker(r)
		l := drawnPosts(r, b, r.Intn(61))
		each, codes := b, []int(nil)
		for _, p := range l {
			next, code, _, ok := impl.Publish(each, p)
			if !ok {
				t.Fatal("what was good is not:", shownBroker(each))
			}
			each, codes = next, append(codes, code)
		}
		got, told, ok := playedPostsAs(t, "drawn", b, l)
		if !sameBroker(got, each) || !slices.Equal(told, codes) || !ok {
			t.Errorf("%d posts: %s, %v, %v; each: %s, %v", len(l), shownBroker(got), told, ok, shownBroker(each), codes)
		}
	}
}

// What is not right changes nothing: without it all is the same.
func TestPostsThatAreNotRightChangeNothing(t *testing.T) {
	r := rand.New(rand.NewSource(174))
	wrong := 0
	for range 150 {
		b := drawnBroker(r)
		l := drawnPosts(r, b, r.Intn(61))
		got, codes, _ := playedPostsAs(t, "all", b, l)
		var right []impl.Post
		for i, p := range l {
			if codes[i] == impl.PubOk {
				right = append(right, p)
			}
		}
		wrong += len(l) - len(right)
		left, leftCodes, _ := playedPostsAs(t, "those that are right", b, right)
		if !sameBroker(got, left) || !slices.Equal(leftCodes, make([]int, len(right))) {
			t.Errorf("%s; without what is wrong %s, %v", shownBroker(got), shownBroker(left), leftCodes)
		}
	}
	if wrong < 500 {
		t.Error("too few are wrong:", wrong)
	}
}

// brokerWitness knows what each fan has been told, by what the other chapters tell of each post.
type brokerWitness struct {
	counts map[string]int
	kept   map[int][]impl.Note
	lost   map[int]int
	right  int
	told   int
	passed int
}

func newBrokerWitness(b impl.Broker) *brokerWitness {
	w := &brokerWitness{counts: map[string]int{}, kept: map[int][]impl.Note{}, lost: map[int]int{}}
	for _, topic := range b.Topics {
		w.counts[topic.Name] = topic.Count
	}
	for _, f := range b.Fans {
		w.kept[f.Who], w.lost[f.Who] = slices.Clone(f.Inbox), f.Lost
	}
	return w
}

// isRight asks chapter 4.
func (w *brokerWitness) isRight(b impl.Broker, p impl.Post) bool {
	for _, topic := range b.Topics {
		if topic.Name == p.Topic {
			valid, _ := impl.IsValid(p.Bytes, topic.Schema)
			return valid && w.counts[p.Topic] < 1000
		}
	}
	return false
}

// see: the post's number has no gap ahead of it, and each fan whom it concerns is told it, in its own type, and as WouldGet told.
func (w *brokerWitness) see(t *testing.T, b impl.Broker, p impl.Post) impl.Broker {
	t.Helper()
	after, code, no, ok := impl.Publish(b, p)
	isRight := w.isRight(b, p)
	if !ok || isRight != (code == impl.PubOk) {
		t.Fatalf("Publish(%s, %.80q): code %d, %v", shownBroker(b), p, code, ok)
	}
	if isRight {
		w.counts[p.Topic]++
		w.right++
	}
	if isRight && no != w.counts[p.Topic] || !isRight && (no != 0 || !sameBroker(after, b)) {
		t.Errorf("Publish(%s, %.80q): code %d, No %d: %s", shownBroker(b), p, code, no, shownBroker(after))
	}
	for _, f := range b.Fans {
		n, gets := impl.WouldGet(b, f.Who, p)
		fits, _ := impl.TopicFits(f.Pattern, p.Topic)
		matches, _ := impl.Matches(f.Filter, p.Bytes)
		bytes, isSeen := impl.DownTo(p.Bytes, f.View)
		if concerns := isRight && fits && matches && isSeen; gets != concerns {
			t.Errorf("fan %d of %s, %.80q: WouldGet tells %v", f.Who, shownBroker(b), p, gets)
		}
		if !gets {
			w.passed++
			continue
		}
		if valid, _ := impl.IsValid(n.Bytes, f.View); !valid || n != (impl.Note{Topic: p.Topic, No: no, Bytes: bytes}) {
			t.Errorf("fan %d of %s, %.80q: %v", f.Who, shownBroker(b), p, n)
		}
		w.keep(f.Who, n)
	}
	w.holds(t, after)
	return after
}

func (w *brokerWitness) keep(who int, n impl.Note) {
	w.told++
	l := append(w.kept[who], n)
	for len(l) > 10 {
		l = l[1:]
		w.lost[who] = min(w.lost[who]+1, 100000)
	}
	w.kept[who] = l
}

func (w *brokerWitness) holds(t *testing.T, b impl.Broker) {
	t.Helper()
	if !impl.GoodBroker(b) {
		t.Fatalf("it is not good: %s", shownBroker(b))
	}
	for _, topic := range b.Topics {
		if topic.Count != w.counts[topic.Name] {
			t.Errorf("topic %s has %d, want %d", topic.Name, topic.Count, w.counts[topic.Name])
		}
	}
	for _, f := range b.Fans {
		if !slices.Equal(f.Inbox, w.kept[f.Who]) || f.Lost != w.lost[f.Who] {
			t.Errorf("fan %d: %v, %d lost; want %v, %d", f.Who, f.Inbox, f.Lost, w.kept[f.Who], w.lost[f.Who])
		}
	}
}

// take: the first one that was kept is handed out.
func (w *brokerWitness) take(t *testing.T, b impl.Broker, who int) impl.Broker {
	t.Helper()
	after, n, ok := impl.TakeNote(b, who)
	if kept := w.kept[who]; ok != (len(kept) > 0) || ok && n != kept[0] {
		t.Fatalf("%v were kept: TakeNote %d = %v, %v", kept, who, n, ok)
	}
	if !ok {
		return b
	}
	w.kept[who] = w.kept[who][1:]
	w.holds(t, after)
	return after
}

// Promise 17.
func TestWhatIsRightIsNumberedAndToldToEachWhomItConcerns(t *testing.T) {
	r := rand.New(rand.NewSource(175))
	right, told, passed := 0, 0, 0
	for range 250 {
		b := drawnBroker(r)
		w := newBrokerWitness(b)
		for range 60 {
			if r.Intn(6) == 0 && len(b.Fans) > 0 {
				b = w.take(t, b, b.Fans[r.Intn(len(b.Fans))].Who)
			}
			b = w.see(t, b, drawnPost(r, b))
		}
		right, told, passed = right+w.right, told+w.told, passed+w.passed
	}
	if right < 3000 || told < 2000 || passed < 3000 {
		t.Error("too few:", right, told, passed)
	}
}

// All short plays of a broker of two topics and two fans, one of which has but one place left and one number.
func TestAllShortPlaysOfPosts(t *testing.T) {
	given := broker("topic a 998 {n:1! num}; topic b 3 {n:1! num,s:2 text}; fan 7 + 99999 1>0 {n:1! num}; fan 8 b 0 !2^x {n:1! num,s:2 text}")
	given.Fans[0].Inbox = notesOf("a", 990, 998)
	kinds := posts("a 1", "a 0", "b 1 x", "b 2", "a -", "z 1")
	for _, play := range textsOver("abcdef", 0, 4) {
		w := newBrokerWitness(given)
		b := given
		var l []impl.Post
		for _, letter := range play {
			p := kinds[letter-'a']
			b, l = w.see(t, b, p), append(l, p)
		}
		if got, _, _ := playedPostsAs(t, play, given, l); !sameBroker(got, b) {
			t.Errorf("%s: %s; each: %s", play, shownBroker(got), shownBroker(b))
		}
	}
}

// The order of topics and fans is theirs alone: who is told what does not hang on it.
func TestWhoIsToldWhatHangsOnNoOrder(t *testing.T) {
	r := rand.New(rand.NewSource(176))
	for range 100 {
		b := drawnBroker(r)
		l := drawnPosts(r, b, 40)
		turned := ownBroker(b)
		slices.Reverse(turned.Topics)
		slices.Reverse(turned.Fans)
		got, codes, _ := impl.PlayPosts(b, l)
		other, otherCodes, _ := impl.PlayPosts(turned, l)
		slices.Reverse(other.Topics)
		slices.Reverse(other.Fans)
		if !sameBroker(got, other) || !slices.Equal(codes, otherCodes) {
			t.Errorf("%s, %v; turned %s, %v", shownBroker(got), codes, shownBroker(other), otherCodes)
		}
	}
}
