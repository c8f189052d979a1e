package tests

import (
	"maps"
	"math/rand"
	"runtime"
	"slices"
	"strconv"
	"strings"
	"sync"
	"testing"
	"unsafe"

	"loop.example/g00333/impl"
)

// anyBrokers is good ones, wrong ones, and such as have any numbers, texts, schemas and filters at each place.
func anyBrokers() map[string]impl.Broker {
	l := goodBrokers()
	for name, b := range wrongBrokers() {
		l["wrong: "+name] = b
	}
	bend := func(name string, bend func(b *impl.Broker)) { l[name] = bentBroker(bothBroker, bend) }
	for _, n := range anyNumbers() {
		at := " " + strconv.Itoa(n)
		bend("count"+at, func(b *impl.Broker) { b.Topics[0].Count = n })
		bend("who"+at, func(b *impl.Broker) { b.Fans[0].Who = n })
		bend("lost"+at, func(b *impl.Broker) { b.Fans[0].Lost = n })
		bend("no"+at, func(b *impl.Broker) { b.Fans[0].Inbox[1].No = n })
		bend("all"+at, func(b *impl.Broker) {
			b.Topics[0].Count, b.Fans[0].Who, b.Fans[0].Lost, b.Fans[0].Inbox[0].No = n, n, n, n
		})
	}
	for i, text := range anyTexts() {
		at := " text " + strconv.Itoa(i)
		bend("name"+at, func(b *impl.Broker) { b.Topics[0].Name = text })
		bend("name of no fan"+at, func(b *impl.Broker) { b.Topics[0].Name, b.Fans = text, nil })
		bend("pattern"+at, func(b *impl.Broker) { b.Fans[0].Pattern = text })
		bend("note's topic"+at, func(b *impl.Broker) { b.Fans[0].Inbox[1].Topic = text })
		bend("note and topic"+at, func(b *impl.Broker) { b.Fans[0].Inbox[0].Topic, b.Topics[0].Name = text, text })
		bend("bytes"+at, func(b *impl.Broker) { b.Fans[1].Inbox[0].Bytes = text })
	}
	for i, s := range anySchemas() {
		at := " " + strconv.Itoa(i)
		bend("schema"+at, func(b *impl.Broker) { b.Topics[0].Schema = s })
		bend("view"+at, func(b *impl.Broker) { b.Fans[1].View = s })
		bend("both"+at, func(b *impl.Broker) {
			b.Topics[1].Schema, b.Fans[0].View, b.Fans[1].View, b.Fans[0].Inbox = s, s, s, nil
		})
	}
	for i, f := range anyFilters() {
		bend("filter "+strconv.Itoa(i), func(b *impl.Broker) { b.Fans[i%2].Filter = f })
	}
	return l
}

func anyPosts() []impl.Post {
	l := posts("a 5", "a 5 x", "a -", "b/c 5", "b/c -", "b 5", "z 5")
	for _, text := range anyTexts() {
		l = append(l, impl.Post{Topic: text}, impl.Post{Topic: text, Bytes: text}, impl.Post{Topic: "a", Bytes: text}, impl.Post{Topic: "b/c", Bytes: text})
	}
	for _, text := range []string{"\x08", "\x08\x02\x08", "\x0a\x00", "\x08\x02\x12", "\xff\xff", "\x12\x00\x08\x02", strings.Repeat("\x08\x02", 200), strings.Repeat("x", 400)} {
		l = append(l, impl.Post{Topic: "a", Bytes: text})
	}
	return l
}

func anyFans() []impl.Fan {
	l := []impl.Fan{{}, fan("50 z 0 1? {}"), fan("50 + 0 (1?&!2^x) {n:1! num}"), fan("7 + 0 1? {}"), fan("50 a 1 1? {}"), {Inbox: make([]impl.Note, 1<<16)}}
	bend := func(bend func(f *impl.Fan)) {
		f := fan("50 + 0 1? {n:1! num}")
		bend(&f)
		l = append(l, f)
	}
	for _, n := range anyNumbers() {
		bend(func(f *impl.Fan) { f.Who = n })
		bend(func(f *impl.Fan) { f.Lost = n })
		bend(func(f *impl.Fan) { f.Inbox = []impl.Note{{Topic: "a", No: n}} })
	}
	for _, text := range anyTexts() {
		bend(func(f *impl.Fan) { f.Pattern = text })
		bend(func(f *impl.Fan) { f.Inbox = []impl.Note{{Topic: text, Bytes: text}} })
	}
	for _, s := range anySchemas() {
		bend(func(f *impl.Fan) { f.View = s })
	}
	for _, x := range anyFilters() {
		bend(func(f *impl.Fan) { f.Filter = x })
	}
	return l
}

// behindFan lays behind each list's length what would change the fan, or make it no good one.
func behindFan(f impl.Fan) impl.Fan {
	f.Filter, _ = behindWants(f.Filter)
	f.View, _ = behind(f.View)
	memory := append(slices.Clone(f.Inbox), impl.Note{Topic: "a", No: 3, Bytes: saying("77")}, impl.Note{Topic: "nowhere", No: -1})
	f.Inbox = memory[:len(f.Inbox)]
	return f
}

func behindTopics(l []impl.Topic) []impl.Topic {
	var memory []impl.Topic
	for _, t := range l {
		t.Schema, _ = behind(t.Schema)
		memory = append(memory, t)
	}
	memory = append(memory, topic("z 0 {n:1! num}"), topic("z 1 {n:1! num}"), impl.Topic{Count: -1})
	return memory[:len(l)]
}

func behindBroker(b impl.Broker) impl.Broker {
	given := impl.Broker{Topics: behindTopics(b.Topics)}
	for _, f := range b.Fans {
		given.Fans = append(given.Fans, behindFan(f))
	}
	given.Fans = append(given.Fans, fan("60 # 0 !30? {}"), fan("60 z 0 1? {}"), impl.Fan{Who: -1})[:len(b.Fans)]
	return given
}

// A panic in any of these fails the test by itself.
func TestBrokersAnswerAtAnyBrokers(t *testing.T) {
	good := 0
	for name, b := range anyBrokers() {
		given := behindBroker(b)
		before := wholeMemory(given)
		isGood := wantGoodBroker(b)
		if isGood {
			good++
		}
		if got := impl.GoodBroker(given); got != isGood {
			t.Errorf("%s: GoodBroker(%s) = %v", name, shownBroker(b), got)
		}
		madeBrokerAs(t, name, given.Topics)
		addedAs(t, name, given, fan("50 z 0 1? {}"))
		for _, who := range []int{7, 0, 60, -1} {
			fanAs(t, name, given, who)
			tookAs(t, name, given, who)
		}
		for _, p := range posts("a 5", "b/c -", "z 5", "a -") {
			publishedAs(t, name, given, p)
		}
		playedPostsAs(t, name, given, posts("a 5", "b/c 5", "z 5", "a -", "a 6 x"))
		if !sameMemory(wholeMemory(given), before) {
			t.Fatalf("%s: it was written into", name)
		}
	}
	if good < 200 {
		t.Error("too few are good:", good)
	}
}

func TestBrokersAnswerAtAnyPostsWhosAndFans(t *testing.T) {
	full := bentBroker(bothBroker, func(b *impl.Broker) { b.Fans[0].Inbox = notesOf("b/c", 101, 110) })
	for name, b := range map[string]impl.Broker{"both": broker(bothBroker), "full": full, "none": {}, "wrong": broker("topic a 1001 {}")} {
		given := behindBroker(b)
		before := wholeMemory(given)
		for i, p := range anyPosts() {
			publishedAs(t, name, given, p)
			playedPostsAs(t, name, given, slices.Repeat([]impl.Post{p}, i%4*20+1))
		}
		for _, n := range append(anyNumbers(), 7, 100, 101) {
			fanAs(t, name, given, n)
			tookAs(t, name, given, n)
			wouldAs(t, name, given, n, post("a 5"))
		}
		for _, f := range anyFans() {
			f = behindFan(f)
			memory := wholeFan(f)
			addedAs(t, name, given, f)
			if !sameMemory(wholeFan(f), memory) {
				t.Fatalf("%s: a fan was written into", name)
			}
		}
		if !sameMemory(wholeMemory(given), before) {
			t.Fatalf("%s: it was written into", name)
		}
	}
}

func TestPlayPostsAnswersAtAnyLists(t *testing.T) {
	b := broker(bothBroker)
	all := anyPosts()
	for _, l := range [][]impl.Post{nil, {}, all[:1], all[:min(len(all), 60)], make([]impl.Post, 60), make([]impl.Post, 61), make([]impl.Post, 1<<20)} {
		memory := append(slices.Clone(l), post("a 5"), post("b/c 5"), post("z 5"))
		before := slices.Clone(memory)
		playedPostsAs(t, "any", b, memory[:len(l)])
		if !slices.Equal(memory, before) {
			t.Fatalf("%d posts were written into", len(l))
		}
	}
}

// What lies behind a list's length is no part of it.
func TestBrokersDoNotReadBehindTheLength(t *testing.T) {
	whole := broker("topic a 3 {}; topic b 4 {}; topic c 5 {}; topic d 6 {}; topic e 7 {}; fan 1 # 0 !30? {}; fan 2 # 0 !30? {}; fan 3 # 0 !30? {}; fan 4 # 0 !30? {}; fan 5 # 0 !30? {}")
	inbox := broker("topic a 0 {}; fan 0 # 0 1? {}; note a 1 -; note a 2 -; note a 3 -; note a 9 -; note a 1 -").Fans[0].Inbox
	for topics := range 6 {
		for fans := range 6 {
			for notes := range 6 {
				b := impl.Broker{Topics: whole.Topics[:topics], Fans: slices.Clone(whole.Fans)[:fans]}
				if fans > 0 {
					b.Fans[0].Inbox = inbox[:notes]
				}
				isGood := topics < 5 && fans < 5 && (fans == 0 || notes == 0 || topics > 0 && notes < 4)
				if impl.GoodBroker(b) != isGood {
					t.Errorf("%d topics, %d fans, %d notes: GoodBroker = %v", topics, fans, notes, !isGood)
				}
				publishedAs(t, "cut", b, post("a 5"))
				publishedAs(t, "cut", b, post("e 5"))
				playedPostsAs(t, "cut", b, posts("a 5", "c 5", "e 5"))
				tookAs(t, "cut", b, 1)
				fanAs(t, "cut", b, 5)
				addedAs(t, "cut", b, fan("50 a 0 1? {}"))
			}
		}
	}
	if !sameBroker(whole, broker("topic a 3 {}; topic b 4 {}; topic c 5 {}; topic d 6 {}; topic e 7 {}; fan 1 # 0 !30? {}; fan 2 # 0 !30? {}; fan 3 # 0 !30? {}; fan 4 # 0 !30? {}; fan 5 # 0 !30? {}")) {
		t.Error("it was written into:", shownBroker(whole))
	}
	l := slices.Repeat(posts("a 5"), 100)
	for many := range 61 {
		if _, codes, ok := impl.PlayPosts(broker(bothBroker), l[:many]); len(codes) != many || !ok {
			t.Errorf("the first %d of 100 posts: %v, %v", many, codes, ok)
		}
	}
}

// stretch is a piece of memory, from one address up to another one.
type stretch struct {
	from, to uintptr
}

func stretchOfText(text string) stretch {
	from := uintptr(unsafe.Pointer(unsafe.StringData(text)))
	return stretch{from, from + uintptr(len(text))}
}

func stretchOfList[T any](l []T) stretch {
	var one T
	from := uintptr(unsafe.Pointer(unsafe.SliceData(l)))
	return stretch{from, from + uintptr(cap(l))*unsafe.Sizeof(one)}
}

func stretchesOfSchema(s impl.Schema) []stretch {
	l := []stretch{stretchOfList(s.Types)}
	for _, x := range s.Types {
		l = append(l, stretchOfText(x.Name))
	}
	return l
}

func stretchesOfNotes(notes ...impl.Note) []stretch {
	var l []stretch
	for _, n := range notes {
		l = append(l, stretchOfText(n.Topic), stretchOfText(n.Bytes))
	}
	return l
}

func stretchesOfFan(f impl.Fan) []stretch {
	l := append(stretchesOfSchema(f.View), stretchOfText(f.Pattern), stretchOfList(f.Filter.Wants), stretchOfList(f.Inbox))
	for _, w := range f.Filter.Wants {
		l = append(l, stretchOfText(w.Text))
	}
	return append(l, stretchesOfNotes(f.Inbox...)...)
}

// stretchesOf is all lists, with what lies behind their length, and all texts of a broker.
func stretchesOf(b impl.Broker) []stretch {
	l := []stretch{stretchOfList(b.Topics), stretchOfList(b.Fans)}
	for _, topic := range b.Topics {
		l = append(append(l, stretchesOfSchema(topic.Schema)...), stretchOfText(topic.Name))
	}
	for _, f := range b.Fans {
		l = append(l, stretchesOfFan(f)...)
	}
	return l
}

// shareMemory: whether two of the stretches have a byte in common.
func shareMemory(l []stretch) bool {
	l = slices.DeleteFunc(slices.Clone(l), func(s stretch) bool { return s.from == s.to })
	slices.SortFunc(l, func(a, b stretch) int {
		if a.from < b.from {
			return -1
		}
		return 1
	})
	for i := 1; i < len(l); i++ {
		if l[i].from < l[i-1].to {
			return true
		}
	}
	return false
}

// ownMemory has all lists and texts in memory of their own, so that what shares it is seen.
func ownMemory(b impl.Broker) impl.Broker {
	own := ownBroker(b)
	for i := range own.Topics {
		own.Topics[i].Name = strings.Clone(own.Topics[i].Name)
		own.Topics[i].Schema = ownSchemaTexts(own.Topics[i].Schema)
	}
	for i, f := range own.Fans {
		f.Pattern, f.Filter, f.View = strings.Clone(f.Pattern), ownWantTexts(f.Filter), ownSchemaTexts(f.View)
		for k, n := range f.Inbox {
			f.Inbox[k] = impl.Note{Topic: strings.Clone(n.Topic), No: n.No, Bytes: strings.Clone(n.Bytes)}
		}
		own.Fans[i] = f
	}
	return own
}

func ownPost(p impl.Post) impl.Post {
	return impl.Post{Topic: strings.Clone(p.Topic), Bytes: strings.Clone(p.Bytes)}
}

func ownSchemaTexts(s impl.Schema) impl.Schema {
	s = copyOf(s)
	for k := range s.Types {
		s.Types[k].Name = strings.Clone(s.Types[k].Name)
	}
	return s
}

// behindIsZero: what lies behind the length of an answer's lists is handed out by nobody.
func behindIsZero(b impl.Broker) bool {
	whole := wholeMemory(b)
	for _, topic := range whole.Topics[len(b.Topics):] {
		if !sameMemory(topic, impl.Topic{}) {
			return false
		}
	}
	for i, f := range whole.Fans {
		if i >= len(b.Fans) && !sameMemory(f, impl.Fan{}) {
			return false
		}
		if i < len(b.Fans) && slices.ContainsFunc(f.Inbox[len(b.Fans[i].Inbox):], func(n impl.Note) bool { return n != impl.Note{} }) {
			return false
		}
	}
	return true
}

func TestBrokersHandOutNewMemory(t *testing.T) {
	r := rand.New(rand.NewSource(177))
	good := goodBrokers()
	for _, name := range slices.Sorted(maps.Keys(good)) {
		b := ownMemory(good[name])
		who, p, q := 7, ownPost(drawnPost(r, b)), ownPost(drawnPost(r, b))
		if len(b.Fans) > 0 {
			who = b.Fans[r.Intn(len(b.Fans))].Who
		}
		f := ownMemory(impl.Broker{Fans: []impl.Fan{fan("55 z 0 (1?&!2^hello) {name:1! num}")}}).Fans[0]
		l := []impl.Post{p, q}
		made := slices.Clone(b.Topics)
		for i := range made {
			made[i].Count = 0
		}
		given := append(stretchesOf(b), stretchesOfFan(f)...)
		given = append(given, stretchOfText(p.Topic), stretchOfText(p.Bytes), stretchOfText(q.Topic), stretchOfText(q.Bytes), stretchOfList(l))
		if shareMemory(given) {
			t.Fatalf("%s: no test, the arguments share memory", name)
		}
		for of, answer := range map[string]func() brokerAnswer{
			"NewBroker": func() brokerAnswer { got, _ := impl.NewBroker(made); return brokerAnswer{broker: got} },
			"AddFan":    func() brokerAnswer { got, _ := impl.AddFan(b, f); return brokerAnswer{broker: got} },
			"Publish":   func() brokerAnswer { got, _, _, _ := impl.Publish(b, p); return brokerAnswer{broker: got} },
			"TakeNote":  func() brokerAnswer { got, n, _ := impl.TakeNote(b, who); return brokerAnswer{broker: got, note: n} },
			"PlayPosts": func() brokerAnswer {
				got, codes, _ := impl.PlayPosts(b, l)
				return brokerAnswer{broker: got, codes: codes}
			},
			"WouldGet": func() brokerAnswer { n, _ := impl.WouldGet(b, who, p); return brokerAnswer{note: n} },
			"FanOf":    func() brokerAnswer { got, _ := impl.FanOf(b, who); return brokerAnswer{fan: got} },
		} {
			first, second := answer(), answer()
			all := slices.Concat(given, first.stretches(), second.stretches())
			if of == "NewBroker" {
				all = append(all, stretchOfList(made))
			}
			if shareMemory(all) {
				t.Errorf("%s, %s: an answer shares memory: %s", name, of, shownBroker(first.broker))
			}
			if !behindIsZero(first.broker) {
				t.Errorf("%s, %s: what lies behind is handed out: %s", name, of, shownBroker(wholeMemory(first.broker)))
			}
			// What is not kept may lend its memory to what comes later.
			runtime.KeepAlive([]brokerAnswer{first, second})
		}
		runtime.KeepAlive(made)
	}
}

// brokerAnswer is what any of the functions tells.
type brokerAnswer struct {
	broker impl.Broker
	fan    impl.Fan
	note   impl.Note
	codes  []int
}

func (a brokerAnswer) stretches() []stretch {
	return slices.Concat(stretchesOf(a.broker), stretchesOfFan(a.fan), stretchesOfNotes(a.note), []stretch{stretchOfList(a.codes)})
}

// What is written into an answer, and behind it, changes no other one and no argument.
func TestWhatIsSpoiltInABrokerIsItsAlone(t *testing.T) {
	b := behindBroker(broker(bothBroker))
	before := wholeMemory(b)
	want, wantCodes, _ := wantPlayedPosts(b, posts("a 5", "b/c 5", "a 6"))
	first, codes, _ := impl.PlayPosts(b, posts("a 5", "b/c 5", "a 6"))
	second, secondCodes, _ := impl.PlayPosts(b, posts("a 5", "b/c 5", "a 6"))
	for i := range first.Topics {
		first.Topics[i].Schema.Types[0] = impl.Type{Kind: 77}
		first.Topics[i] = impl.Topic{Count: 77}
	}
	for i, f := range first.Fans {
		spoilWants(f.Filter)
		f.View.Types[0] = impl.Type{Kind: 77}
		f.Inbox[0] = impl.Note{No: 77}
		_ = append(f.Inbox, impl.Note{No: 77})
		first.Fans[i] = impl.Fan{Who: 77}
	}
	_ = append(first.Fans, impl.Fan{Who: 77})
	spoilInts(codes)
	if !sameBroker(second, want) || !slices.Equal(secondCodes, wantCodes) || !sameMemory(wholeMemory(b), before) {
		t.Errorf("memory is shared: %s, %v", shownBroker(second), secondCodes)
	}
}

func TestBrokersAnswerTheSameFromManySides(t *testing.T) {
	b := broker(bothBroker)
	p := post("a 5 x")
	published, _, wantNo, _ := wantPublished(b, p)
	took, wantNote, _ := wantTook(b, 7)
	played, wantCodes, _ := wantPlayedPosts(b, posts("a 5", "b/c 5", "z 5"))
	would, _ := wantWould(b, 7, p)
	var joined sync.WaitGroup
	for i := range 16 {
		joined.Go(func() {
			for range 50 {
				got, code, no, _ := impl.Publish(b, p)
				left, n, _ := impl.TakeNote(b, 7)
				after, codes, _ := impl.PlayPosts(b, posts("a 5", "b/c 5", "z 5"))
				note, _ := impl.WouldGet(b, 7, p)
				f, _ := impl.FanOf(b, 0)
				if !sameBroker(got, published) || code != 0 || no != wantNo || !sameBroker(left, took) || n != wantNote || note != would {
					t.Errorf("%d: %s, %d, %d, %s, %v, %v", i, shownBroker(got), code, no, shownBroker(left), n, note)
				}
				if !sameBroker(after, played) || !slices.Equal(codes, wantCodes) || !sameFan(f, b.Fans[1]) || !impl.GoodBroker(b) {
					t.Errorf("%d: %s, %v, %v", i, shownBroker(after), codes, f)
				}
			}
		})
	}
	joined.Wait()
}
