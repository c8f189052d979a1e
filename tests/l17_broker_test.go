package tests

import (
	"math"
	"math/rand"
	"slices"
	"strconv"
	"strings"
	"testing"

	"loop.example/g00333/impl"
)

func TestLimitsAndCodesOfBrokers(t *testing.T) {
	if impl.MaxTopics != 4 || impl.MaxFans != 4 {
		t.Error(impl.MaxTopics, impl.MaxFans)
	}
	codes := []int{impl.PubOk, impl.PubTopic, impl.PubLarge, impl.PubBytes, impl.PubFull}
	if !slices.Equal(codes, from(0, 4)) {
		t.Error(codes)
	}
}

func madeBrokerAs(t *testing.T, name string, l []impl.Topic) bool {
	t.Helper()
	want, okWant := wantMadeBroker(l)
	b, ok := impl.NewBroker(l)
	if !sameBroker(b, want) || ok != okWant {
		t.Errorf("%s: NewBroker = %s, %v; want %s, %v", name, shownBroker(b), ok, shownBroker(want), okWant)
	}
	return ok
}

func TestNewBrokerByHand(t *testing.T) {
	for text, isGood := range map[string]bool{
		"":             true,
		"topic a 0 {}": true,
		"topic a/b/c/d/e/f 0 {n:1! num,l:30 [[text]]}":                          true,
		"topic a 0 {}; topic b 0 {}":                                            true,
		"topic a 0 {}; topic a/b 0 {n:1 num}":                                   true,
		"topic a 0 {}; topic b 0 {n:1 num}; topic c 0 {}; topic d 0 {s:1 text}": true,
		"topic a 0 {}; topic b 0 {}; topic c 0 {}; topic d 0 {}; topic e 0 {}":  false,
		"topic a 0 {}; topic b 0 {}; topic c 0 {}; topic d 0 {}; topic a 0 {}":  false,
		"topic a 0 {}; topic a 0 {}":                                            false,
		"topic a 0 {}; topic a 0 {n:1 num}":                                     false,
		"topic a 0 {}; topic b 0 {}; topic a 0 {}":                              false,
		"topic a 0 {}; topic b 0 {}; topic b 0 {}":                              false,
		"topic c 0 {}; topic b 0 {}; topic d 0 {}; topic c 0 {}":                false,
		"topic a 1 {}":                false,
		"topic a -1 {}":               false,
		"topic a 1000 {}":             false,
		"topic a 1001 {}":             false,
		"topic a 0 {}; topic b 1 {}":  false,
		"topic a 1 {}; topic b 0 {}":  false,
		"topic a 0 {}; topic b -1 {}": false,
		"topic a 0 {}; topic b 0 {}; topic c 0 {}; topic d 1 {}": false,
		"topic + 0 {}":                           false,
		"topic # 0 {}":                           false,
		"topic a/+ 0 {}":                         false,
		"topic a/# 0 {}":                         false,
		"topic a/ 0 {}":                          false,
		"topic A 0 {}":                           false,
		"topic a/b/c/d/e/f/g 0 {}":               false,
		"topic a 0 {n:0 num}":                    false,
		"topic a 0 {n:1 num,n:2 num}":            false,
		"topic a 0 {}; topic b 0 {e:1 enum(21)}": false,
		"topic a 0 {}; topic b 0 {l:1 []}":       false,
	} {
		want := impl.Broker{}
		if isGood {
			want = broker(text)
		}
		b, ok := impl.NewBroker(broker(text).Topics)
		if !sameBroker(b, want) || ok != isGood {
			t.Errorf("%s: %s, %v", text, shownBroker(b), ok)
		}
		madeBrokerAs(t, text, broker(text).Topics)
	}
}

func TestNewBrokerOfEachNameSchemaAndCount(t *testing.T) {
	at := func(which int, other impl.Topic) []impl.Topic {
		l := broker("topic x 0 {n:1 num}; topic x/y 0 {}; topic y 0 {s:2! text}; topic y/x 0 {}").Topics
		l[which] = other
		return l
	}
	isGood := func(name string, other impl.Topic, want bool) {
		t.Helper()
		for which := range 4 {
			if madeBrokerAs(t, name, at(which, other)) != want {
				t.Errorf("%s, topic %d: %v", name, which, !want)
			}
		}
		if madeBrokerAs(t, name+", alone", []impl.Topic{other}) != want {
			t.Errorf("%s, alone: %v", name, !want)
		}
	}
	s := schema("{n:1! num}")
	for _, text := range goodTopics() {
		isGood(text, impl.Topic{Name: text, Schema: s}, true)
	}
	for _, text := range append(onlyPatterns(), wrongPatterns()...) {
		isGood(text[:min(len(text), 40)], impl.Topic{Name: text, Schema: s}, false)
	}
	for i, own := range goodSchemas() {
		isGood("schema "+strconv.Itoa(i), impl.Topic{Name: "a", Schema: own}, true)
	}
	for i, own := range wrongSchemas() {
		isGood("wrong schema "+strconv.Itoa(i), impl.Topic{Name: "a", Schema: own}, false)
	}
	for _, n := range append(from(-2, 3), 999, 1000, 1001, math.MinInt, math.MaxInt) {
		isGood("count "+strconv.Itoa(n), impl.Topic{Name: "a", Schema: s, Count: n}, n == 0)
	}
	for many := range 10 {
		var l []impl.Topic
		for i := range many {
			l = append(l, impl.Topic{Name: "t" + strconv.Itoa(i), Schema: s})
		}
		if madeBrokerAs(t, "many", l) != (many <= 4) {
			t.Errorf("%d topics: %v", many, many > 4)
		}
	}
}

func TestGoodBrokersAndOthers(t *testing.T) {
	for name, b := range goodBrokers() {
		if !impl.GoodBroker(b) || !wantGoodBroker(b) {
			t.Errorf("%s: GoodBroker(%s) = %v, the reference %v", name, shownBroker(b), impl.GoodBroker(b), wantGoodBroker(b))
		}
	}
	for name, b := range wrongBrokers() {
		if impl.GoodBroker(b) || wantGoodBroker(b) {
			t.Errorf("%s: GoodBroker(%s) = %v, the reference %v", name, shownBroker(b), impl.GoodBroker(b), wantGoodBroker(b))
		}
	}
}

// bentIsGood asks GoodBroker of the broker of both topics, bent.
func bentIsGood(t *testing.T, want bool, about string, n int, bend func(b *impl.Broker)) {
	t.Helper()
	b := bentBroker(bothBroker, bend)
	if impl.GoodBroker(b) != want || wantGoodBroker(b) != want {
		t.Errorf("%s, %d: GoodBroker(%s) = %v, the reference %v", about, n, shownBroker(b), impl.GoodBroker(b), wantGoodBroker(b))
	}
}

func TestGoodBrokerByItsEdges(t *testing.T) {
	for _, n := range append(from(-3, 12), 99, 100, 101, 102, 998, 999, 1000, 1001, 99999, 100000, 100001, math.MinInt, math.MaxInt) {
		bentIsGood(t, n >= 3 && n <= 1000, "a Count, a note being 3", n, func(b *impl.Broker) { b.Topics[0].Count = n })
		bentIsGood(t, n >= 0 && n <= 1000, "a Count", n, func(b *impl.Broker) { b.Topics[0].Count, b.Fans = n, nil })
		bentIsGood(t, n == 1000, "a Count, a note being 1000", n, func(b *impl.Broker) { b.Topics[1].Count = n })
		bentIsGood(t, n >= 0 && n <= 100 && n != 0, "a Who, the other one being 0", n, func(b *impl.Broker) { b.Fans[0].Who = n })
		bentIsGood(t, n >= 0 && n <= 100 && n != 7, "a Who, the other one being 7", n, func(b *impl.Broker) { b.Fans[1].Who = n })
		bentIsGood(t, n >= 0 && n <= 100000, "a Lost", n, func(b *impl.Broker) { b.Fans[0].Lost = n })
		bentIsGood(t, n >= 0 && n <= 100000, "another Lost", n, func(b *impl.Broker) { b.Fans[1].Lost = n })
		bentIsGood(t, n == 1 || n == 2, "a No ahead of 3", n, func(b *impl.Broker) { b.Fans[0].Inbox[0].No = n })
		bentIsGood(t, n >= 1 && n <= 1000, "a No alone", n, func(b *impl.Broker) { b.Fans[0].Inbox[1].No = n })
		bentIsGood(t, n == 2 || n == 3, "a No behind 1", n, func(b *impl.Broker) { b.Fans[0].Inbox[2].No = n })
	}
	for many := range 16 {
		bentIsGood(t, many <= 10, "notes", many, func(b *impl.Broker) { b.Fans[1].Inbox = notesOf("b/c", 901, 900+many) })
		bentIsGood(t, many <= 10, "other notes", many, func(b *impl.Broker) { b.Fans[0].Inbox = notesOf("b/c", 1001-many, 1000) })
		bentIsGood(t, many <= 4, "fans", many, func(b *impl.Broker) {
			b.Fans = nil
			for who := range many {
				b.Fans = append(b.Fans, impl.Fan{Who: who, Pattern: "z", Filter: filter("1?"), View: schema("{}")})
			}
		})
		bentIsGood(t, many <= 2, "more topics", many, func(b *impl.Broker) {
			for no := range many {
				b.Topics = append(b.Topics, impl.Topic{Name: "b/d/" + strconv.Itoa(no), Schema: schema("{n:1 num}")})
			}
		})
	}
	for bytes := 380; bytes < 420; bytes++ {
		b := wireField(data(2, strings.Repeat("x", bytes-3)))
		bentIsGood(t, len(b) <= 400, "bytes", len(b), func(b2 *impl.Broker) { b2.Fans[1].Inbox[0].Bytes = b })
	}
}

func TestGoodBrokerOfEachPatternFilterAndView(t *testing.T) {
	for i, text := range append(append(goodTopics(), onlyPatterns()...), wrongPatterns()...) {
		bentIsGood(t, wantGoodPattern(text), "a pattern", i, func(b *impl.Broker) {
			b.Fans[0].Pattern, b.Fans[0].Inbox, b.Fans[0].View = text, nil, schema("{n:1 num}")
		})
		bentIsGood(t, wantGoodPattern(text), "a pattern without topics", i, func(b *impl.Broker) {
			*b = impl.Broker{Fans: b.Fans[1:]}
			b.Fans[0].Pattern, b.Fans[0].Inbox = text, nil
		})
		bentIsGood(t, wantGoodTopic(text) && text != "b/c", "a Name", i, func(b *impl.Broker) { b.Topics[0].Name, b.Fans = text, nil })
	}
	for i, f := range goodFilters() {
		bentIsGood(t, true, "a filter", i, func(b *impl.Broker) { b.Fans[0].Filter = f })
		bentIsGood(t, true, "another filter", i, func(b *impl.Broker) { b.Fans[1].Filter = f })
	}
	for name, f := range wrongFilters() {
		bentIsGood(t, false, name, 0, func(b *impl.Broker) { b.Fans[0].Filter = f })
		bentIsGood(t, false, name, 1, func(b *impl.Broker) { b.Fans[1].Filter = f })
	}
	for i, s := range goodSchemas() {
		bentIsGood(t, true, "a view of no topic", i, func(b *impl.Broker) { b.Fans[1].View, b.Fans[1].Pattern, b.Fans[1].Inbox = s, "z", nil })
		bentIsGood(t, wantSubtype(schema("{n:1! num,e:3 enum(4)}"), s), "a view", i, func(b *impl.Broker) { b.Fans[1].View, b.Fans[1].Inbox = s, nil })
		bentIsGood(t, true, "a schema of no fan", i, func(b *impl.Broker) { b.Topics[0].Schema, b.Fans = s, nil })
		bentIsGood(t, wantSubtype(s, schema("{n:1! num}")), "a schema", i, func(b *impl.Broker) { b.Topics[0].Schema = s })
	}
	for i, s := range wrongSchemas() {
		bentIsGood(t, false, "a wrong view of no topic", i, func(b *impl.Broker) { b.Fans[1].View, b.Fans[1].Pattern, b.Fans[1].Inbox = s, "z", nil })
		bentIsGood(t, false, "a wrong view", i, func(b *impl.Broker) { b.Fans[1].View, b.Fans[1].Inbox = s, nil })
		bentIsGood(t, false, "a wrong schema of no fan", i, func(b *impl.Broker) { b.Topics[0].Schema, b.Fans = s, nil })
		bentIsGood(t, false, "a wrong schema", i, func(b *impl.Broker) { b.Topics[0].Schema = s })
	}
}

// Each topic that fits is asked, and none that does not.
func TestGoodBrokerOfViewsAndTopicsThatFit(t *testing.T) {
	patterns := []string{"#", "+", "a", "a/#", "a/+", "b", "+/b", "c", "a/b", "+/#"}
	schemas := []string{"{}", "{n:1 num}", "{n:1! num}", "{s:1 text}", "{n:1! num,s:2 text}"}
	told := map[bool]int{}
	for _, pattern := range patterns {
		for _, one := range schemas {
			for _, other := range schemas {
				for _, view := range schemas {
					b := impl.Broker{
						Topics: []impl.Topic{{Name: "a", Schema: schema(one)}, {Name: "a/b", Schema: schema(other)}},
						Fans:   []impl.Fan{{Pattern: pattern, Filter: filter("1?"), View: schema(view)}},
					}
					want := true
					for _, its := range b.Topics {
						fits, _ := impl.TopicFits(pattern, its.Name)
						reads, _ := impl.CanRead(its.Schema, schema(view))
						want = want && (!fits || reads)
					}
					told[want]++
					if impl.GoodBroker(b) != want || wantGoodBroker(b) != want {
						t.Errorf("%s of %s and %s, seen as %s: %v, the reference %v", pattern, one, other, view, impl.GoodBroker(b), wantGoodBroker(b))
					}
				}
			}
		}
	}
	if told[true] < 200 || told[false] < 200 {
		t.Error("too few of a kind:", told)
	}
}

// All short Inboxes of two topics' notes.
func TestGoodBrokerOfAllShortInboxes(t *testing.T) {
	var all []impl.Note
	for _, name := range []string{"a", "b"} {
		for no := range 4 {
			all = append(all, impl.Note{Topic: name, No: no})
		}
	}
	inboxes, last := [][]impl.Note{nil}, [][]impl.Note{nil}
	for range 4 {
		var longer [][]impl.Note
		for _, l := range last {
			for _, n := range all {
				longer = append(longer, append(slices.Clip(l), n))
			}
		}
		inboxes, last = append(inboxes, longer...), longer
	}
	good := 0
	for _, l := range inboxes {
		b := broker("topic a 2 {}; topic b 3 {n:1 num}; fan 7 + 0 1? {}")
		b.Fans[0].Inbox = l
		want := wantGoodBroker(b)
		if want {
			good++
		}
		if impl.GoodBroker(b) != want {
			t.Errorf("%v: GoodBroker = %v", l, !want)
		}
	}
	// Rising lists of 1..2 and of 1..3, of at most four numbers together, one among the other in each way.
	if want := 1 + (2 + 3) + (1 + 2*3*2 + 3) + (1*3*3 + 2*3*3 + 1) + (1*3*6 + 2*1*4); good != want {
		t.Errorf("%d are good, want %d", good, want)
	}
}

func addedAs(t *testing.T, name string, b impl.Broker, f impl.Fan) (impl.Broker, bool) {
	t.Helper()
	want, okWant := wantAdded(b, f)
	got, ok := impl.AddFan(b, f)
	if !sameBroker(got, want) || ok != okWant {
		t.Errorf("%s: AddFan(%s, %v) = %s, %v; want %s, %v", name, shownBroker(b), f.Who, shownBroker(got), ok, shownBroker(want), okWant)
	}
	if ok && !impl.GoodBroker(got) {
		t.Errorf("%s: AddFan(%s, %v) made what is not good", name, shownBroker(b), f.Who)
	}
	return got, ok
}

func TestAddFanByHand(t *testing.T) {
	const one = "topic a 2 {n:1! num,s:2 text}; fan 7 a 3 1? {n:1! num}; note a 2 5"
	for _, row := range []struct {
		given, fan string
		isGood     bool
	}{
		{"", "0 + 0 1? {}", true},
		{"", "100 # 0 (1?&!2^x) {n:1! num}", true},
		{"topic a 0 {n:1! num}", "7 a 0 1? {n:1! num}", true},
		{"topic a 1000 {n:1! num}", "7 a 0 1? {}", true},
		{one, "8 a 0 1? {n:1! num}", true},
		{one, "0 + 0 2^x {n:1! num,s:2 text}", true},
		{one, "8 b 0 1? {n:1 text}", true},
		{one + "; fan 1 # 0 1? {}; fan 2 # 0 1? {}", "3 # 0 1? {}", true},

		{one + "; fan 1 # 0 1? {}; fan 2 # 0 1? {}; fan 3 # 0 1? {}", "4 # 0 1? {}", false},
		{one, "7 a 0 1? {n:1! num}", false},
		{one, "7 b 0 2? {}", false},
		{one, "8 a 1 1? {n:1! num}", false},
		{one, "8 a 100000 1? {n:1! num}", false},
		{one, "8 a -1 1? {n:1! num}", false},
		{one, "-1 a 0 1? {n:1! num}", false},
		{one, "101 a 0 1? {n:1! num}", false},
		{one, "8 a 0 1? {n:1 text}", false},
		{one, "8 a 0 1? {n:1! num,s:2! text}", false},
		{one, "8 # 0 1? {x:3 num}", false},
		{one, "8 a/#/b 0 1? {}", false},
		{one, "8  0 1? {}", false},
		{one, "8 a 0 31? {n:1! num}", false},
		{one, "8 a 0 1? {n:0 num}", false},
		{"topic + 0 {}", "8 a 0 1? {}", false},
		{"topic a 1001 {}", "8 a 0 1? {}", false},
		{"fan 7 a -1 1? {}", "8 a 0 1? {}", false},
	} {
		want := impl.Broker{}
		if row.isGood {
			want = broker(row.given + "; fan " + row.fan)
		}
		got, ok := impl.AddFan(broker(row.given), fan(row.fan))
		if !sameBroker(got, want) || ok != row.isGood {
			t.Errorf("%s, %s: %s, %v", row.given, row.fan, shownBroker(got), ok)
		}
		addedAs(t, row.given+", "+row.fan, broker(row.given), fan(row.fan))
	}
}

// A fan that a good broker has already is no fan that can be added, but for one without Inbox and Lost.
func TestAddFanOfFansWithInboxAndLost(t *testing.T) {
	b := broker("topic a 1000 {n:1! num}")
	for many := range 12 {
		f := fan("7 a 0 1? {n:1! num}")
		f.Inbox = notesOf("a", 1, many)
		if _, ok := addedAs(t, "an Inbox", b, f); ok != (many == 0) {
			t.Errorf("an Inbox of %d: %v", many, ok)
		}
	}
	empty := fan("7 a 0 1? {n:1! num}")
	empty.Inbox = []impl.Note{}
	if got, ok := addedAs(t, "an empty Inbox", b, empty); !ok || !sameBroker(got, broker("topic a 1000 {n:1! num}; fan 7 a 0 1? {n:1! num}")) {
		t.Errorf("an empty Inbox: %s, %v", shownBroker(got), ok)
	}
	for _, n := range append(from(-2, 3), 99999, 100000, 100001, math.MinInt, math.MaxInt) {
		f := fan("7 a 0 1? {n:1! num}")
		f.Lost = n
		if _, ok := addedAs(t, "a Lost", b, f); ok != (n == 0) {
			t.Errorf("Lost %d: %v", n, ok)
		}
	}
}

func TestAddFanToGoodBrokersAndOthers(t *testing.T) {
	fans := []string{"50 z 0 1? {}", "7 z 0 1? {}", "51 # 0 1? {}", "52 + 0 1>0 {n:1! num}", "53 a/# 0 (1?&2?) {n:1 num}"}
	added := 0
	for name, b := range goodBrokers() {
		for _, text := range fans {
			got, ok := addedAs(t, name, b, fan(text))
			if ok {
				added++
			}
			if ok && (len(got.Fans) != len(b.Fans)+1 || !sameBroker(impl.Broker{Topics: got.Topics, Fans: got.Fans[:len(b.Fans)]}, b)) {
				t.Errorf("%s: the others are not as they were: %s", name, shownBroker(got))
			}
		}
	}
	for name, b := range wrongBrokers() {
		for _, text := range fans {
			if got, ok := addedAs(t, "wrong: "+name, b, fan(text)); ok {
				t.Errorf("%s: %s", name, shownBroker(got))
			}
		}
	}
	if added < 100 {
		t.Error("too few were added:", added)
	}
}

func fanAs(t *testing.T, name string, b impl.Broker, who int) {
	t.Helper()
	want, okWant := wantFan(b, who)
	if f, ok := impl.FanOf(b, who); !sameFan(f, want) || ok != okWant {
		t.Errorf("%s: FanOf(%s, %d) = %v, %v; want %v, %v", name, shownBroker(b), who, f, ok, want, okWant)
	}
}

func tookAs(t *testing.T, name string, b impl.Broker, who int) (impl.Broker, impl.Note, bool) {
	t.Helper()
	want, wantNote, okWant := wantTook(b, who)
	got, n, ok := impl.TakeNote(b, who)
	if !sameBroker(got, want) || n != wantNote || ok != okWant {
		t.Errorf("%s: TakeNote(%s, %d) = %s, %v, %v; want %s, %v, %v", name, shownBroker(b), who, shownBroker(got), n, ok, shownBroker(want), wantNote, okWant)
	}
	if impl.GoodBroker(got) != (ok || sameBroker(got, impl.Broker{})) {
		t.Errorf("%s: TakeNote(%s, %d), %v, left what is not good", name, shownBroker(b), who, ok)
	}
	return got, n, ok
}

func TestFanOfByHand(t *testing.T) {
	b := broker(bothBroker)
	for _, who := range append(from(-2, 103), math.MinInt, math.MaxInt) {
		want, isThere := impl.Fan{}, who == 7 || who == 0
		if who == 7 {
			want = broker("fan 7 + 2 1>0 {n:1! num}; note a 1 4; note b/c 999 -5; note a 3 0").Fans[0]
		}
		if who == 0 {
			want = broker("fan 0 b/# 0 3? {n:1 num}; note b/c 1000 -").Fans[0]
		}
		if f, ok := impl.FanOf(b, who); !sameFan(f, want) || ok != isThere {
			t.Errorf("FanOf %d = %v, %v", who, f, ok)
		}
		fanAs(t, "both", b, who)
	}
}

func TestTakeNoteByHand(t *testing.T) {
	const given = "topic a 3 {n:1! num}; topic b 5 {n:1! num}; fan 7 + 2 1>0 {n:1! num}; note a 1 4; note b 4 -5; note a 3 0; fan 0 b 1 1? {n:1 num}; fan 100 b 0 1? {}; note a 2 -"
	for _, row := range []struct {
		given string
		who   int
		note  string
		want  string
	}{
		{given, 7, "a 1 4", "topic a 3 {n:1! num}; topic b 5 {n:1! num}; fan 7 + 2 1>0 {n:1! num}; note b 4 -5; note a 3 0; fan 0 b 1 1? {n:1 num}; fan 100 b 0 1? {}; note a 2 -"},
		{given, 100, "a 2 -", "topic a 3 {n:1! num}; topic b 5 {n:1! num}; fan 7 + 2 1>0 {n:1! num}; note a 1 4; note b 4 -5; note a 3 0; fan 0 b 1 1? {n:1 num}; fan 100 b 0 1? {}"},
		{"topic a 3 {n:1! num}; fan 7 a 2 1>0 {n:1! num}; note a 3 -1", 7, "a 3 -1", "topic a 3 {n:1! num}; fan 7 a 2 1>0 {n:1! num}"},
		{"topic a 3 {n:1! num}; fan 7 a 2 1>0 {n:1! num}; note a 1 5 more; note a 3 -1", 7, "a 1 5 more", "topic a 3 {n:1! num}; fan 7 a 2 1>0 {n:1! num}; note a 3 -1"},
		{given, 0, "", ""},
		{given, 1, "", ""},
		{given, 8, "", ""},
		{given, -1, "", ""},
		{given, 101, "", ""},
		{"", 0, "", ""},
		{"topic a 3 {n:1! num}", 0, "", ""},
		{"topic a 3 {n:1! num}; fan 7 a 2 1>0 {n:1! num}", 7, "", ""},
		{"topic a 2 {n:1! num}; fan 7 a 2 1>0 {n:1! num}; note a 3 -1", 7, "", ""},
		{"topic a 3 {n:1! num}; fan 7 a 2 1>0 {n:1! num}; note a 3 -1; fan 7 a 2 1? {}", 7, "", ""},
	} {
		var want impl.Note
		if row.note != "" {
			want = note(row.note)
		}
		b, n, ok := impl.TakeNote(broker(row.given), row.who)
		if !sameBroker(b, broker(row.want)) || n != want || ok != (row.note != "") {
			t.Errorf("%s, %d: %s, %v, %v", row.given, row.who, shownBroker(b), n, ok)
		}
		tookAs(t, row.given, broker(row.given), row.who)
	}
}

// A full Inbox is taken note by note, the first one first; Lost stays.
func TestTakeNoteTillThereIsNone(t *testing.T) {
	for many := range 11 {
		b := broker("topic a 1000 {n:1! num}; fan 3 b 1 1? {}; fan 7 a 99999 1>0 {n:1! num}; fan 8 c 0 1? {}")
		b.Fans[1].Inbox = notesOf("a", 41, 40+many)
		for no := 41; no <= 40+many; no++ {
			got, n, ok := tookAs(t, "in turn", b, 7)
			if n != (impl.Note{Topic: "a", No: no, Bytes: saying(strconv.Itoa(no))}) || !ok {
				t.Errorf("of %d notes, %d: %v, %v", many, no, n, ok)
			}
			b = got
		}
		if !sameBroker(b, broker("topic a 1000 {n:1! num}; fan 3 b 1 1? {}; fan 7 a 99999 1>0 {n:1! num}; fan 8 c 0 1? {}")) {
			t.Errorf("%d were taken: %s", many, shownBroker(b))
		}
		if got, n, ok := tookAs(t, "none is left", b, 7); ok {
			t.Errorf("none is left: %s, %v", shownBroker(got), n)
		}
	}
}

func TestFansAndNotesOfGoodBrokersAndOthers(t *testing.T) {
	took := map[bool]int{}
	for name, b := range goodBrokers() {
		for who := -1; who < 103; who++ {
			fanAs(t, name, b, who)
			_, _, ok := tookAs(t, name, b, who)
			took[ok]++
		}
	}
	for name, b := range wrongBrokers() {
		for _, who := range []int{-1, 0, 1, 2, 7, 8, 9, 100, 101} {
			if f, ok := impl.FanOf(b, who); ok || !sameFan(f, impl.Fan{}) {
				t.Errorf("%s: FanOf %d = %v, %v", name, who, f, ok)
			}
			if got, n, ok := impl.TakeNote(b, who); ok || n != (impl.Note{}) || !sameBroker(got, impl.Broker{}) {
				t.Errorf("%s: TakeNote %d = %s, %v, %v", name, who, shownBroker(got), n, ok)
			}
		}
	}
	if took[true] < 50 || took[false] < 1000 {
		t.Error("too few of a kind:", took)
	}
}

func TestDrawnBrokersAreGood(t *testing.T) {
	r := rand.New(rand.NewSource(171))
	fans, notes, full := 0, 0, 0
	for range 500 {
		b := drawnBroker(r)
		if !impl.GoodBroker(b) {
			t.Fatalf("GoodBroker(%s) is false", shownBroker(b))
		}
		for _, f := range b.Fans {
			fans++
			notes += len(f.Inbox)
			if len(f.Inbox) == 10 {
				full++
			}
		}
	}
	if fans < 500 || notes < 1000 || full < 50 {
		t.Error("too few:", fans, notes, full)
	}
}
