package tests

import (
	"fmt"
	"math"
	"math/rand"
	"reflect"
	"slices"
	"strconv"
	"strings"

	"loop.example/g00333/impl"
)

// broker is made of parts with `; ` between: of a topic, a fan, and a note, which goes behind the Inbox of the last fan.
func broker(text string) impl.Broker {
	var b impl.Broker
	for _, part := range strings.Split(text, "; ") {
		word, rest, _ := strings.Cut(part, " ")
		switch word {
		case "topic":
			b.Topics = append(b.Topics, topic(rest))
		case "fan":
			b.Fans = append(b.Fans, fan(rest))
		case "note":
			f := &b.Fans[len(b.Fans)-1]
			f.Inbox = append(f.Inbox, note(rest))
		}
	}
	return b
}

// topic is made of Name, Count and Schema.
func topic(text string) impl.Topic {
	words := strings.SplitN(text, " ", 3)
	return impl.Topic{Name: words[0], Count: decimal(words[1]), Schema: schema(words[2])}
}

// fan is made of Who, Pattern, Lost, Filter and View.
func fan(text string) impl.Fan {
	words := strings.SplitN(text, " ", 5)
	return impl.Fan{Who: decimal(words[0]), Pattern: words[1], Lost: decimal(words[2]), Filter: filter(words[3]), View: schema(words[4])}
}

// note is made of Topic, No and what it says.
func note(text string) impl.Note {
	words := strings.SplitN(text, " ", 3)
	return impl.Note{Topic: words[0], No: decimal(words[1]), Bytes: saying(words[2])}
}

// post is made of Topic and what it says.
func post(text string) impl.Post {
	name, rest, _ := strings.Cut(text, " ")
	return impl.Post{Topic: name, Bytes: saying(rest)}
}

// saying is the bytes of a part 1 that is a number (`-` is none), and of a part 2 that is a text, where one stands there.
func saying(text string) string {
	word, said, isText := strings.Cut(text, " ")
	b := ""
	if word != "-" {
		b = wireField(number(1, decimal(word)))
	}
	if isText {
		b += wireField(data(2, said))
	}
	return b
}

func posts(texts ...string) []impl.Post {
	var l []impl.Post
	for _, text := range texts {
		l = append(l, post(text))
	}
	return l
}

// notesOf is those of a topic from one No up to another one, each saying its No.
func notesOf(name string, first, last int) []impl.Note {
	var l []impl.Note
	for _, no := range from(first, last) {
		l = append(l, impl.Note{Topic: name, No: no, Bytes: saying(strconv.Itoa(no))})
	}
	return l
}

func sameFan(a, b impl.Fan) bool {
	return a.Who == b.Who && a.Pattern == b.Pattern && a.Lost == b.Lost && sameFilter(a.Filter, b.Filter) &&
		sameSchema(a.View, b.View) && slices.Equal(a.Inbox, b.Inbox)
}

func sameTopic(a, b impl.Topic) bool {
	return a.Name == b.Name && a.Count == b.Count && sameSchema(a.Schema, b.Schema)
}

func sameBroker(a, b impl.Broker) bool {
	return slices.EqualFunc(a.Topics, b.Topics, sameTopic) && slices.EqualFunc(a.Fans, b.Fans, sameFan)
}

// shownBroker is a broker as a failed test tells it, cut off where it is very long.
func shownBroker(b impl.Broker) string {
	text := fmt.Sprintf("%+v", b)
	return text[:min(len(text), 2000)]
}

func ownFan(f impl.Fan) impl.Fan {
	f.Filter.Wants, f.View, f.Inbox = slices.Clone(f.Filter.Wants), copyOf(f.View), slices.Clone(f.Inbox)
	return f
}

func ownBroker(b impl.Broker) impl.Broker {
	var own impl.Broker
	for _, t := range b.Topics {
		t.Schema = copyOf(t.Schema)
		own.Topics = append(own.Topics, t)
	}
	for _, f := range b.Fans {
		own.Fans = append(own.Fans, ownFan(f))
	}
	return own
}

// bentBroker is another broker than the one that the text tells.
func bentBroker(text string, bend func(b *impl.Broker)) impl.Broker {
	b := broker(text)
	bend(&b)
	return b
}

func wantIsValid(b string, s impl.Schema) bool {
	if len(b) > 400 || !wantGood(s) {
		return false
	}
	_, valid := wantTold(b, s)
	return valid
}

func wantGoodBroker(b impl.Broker) bool {
	if len(b.Topics) > 4 || len(b.Fans) > 4 {
		return false
	}
	byName, byWho := map[string]impl.Topic{}, map[int]impl.Fan{}
	for _, t := range b.Topics {
		if byName[t.Name] = t; !wantGoodTopic(t.Name) || !wantGood(t.Schema) || t.Count < 0 || t.Count > 1000 {
			return false
		}
	}
	for _, f := range b.Fans {
		if byWho[f.Who] = f; !wantGoodFan(f, byName) {
			return false
		}
	}
	return len(byName) == len(b.Topics) && len(byWho) == len(b.Fans)
}

func wantGoodFan(f impl.Fan, topics map[string]impl.Topic) bool {
	_, isFilter := wantWish(f.Filter)
	isInBounds := 0 <= f.Who && f.Who <= 100 && 0 <= f.Lost && f.Lost <= 100000 && len(f.Inbox) <= 10
	if !isInBounds || !isFilter || !wantGoodPattern(f.Pattern) || !wantGood(f.View) {
		return false
	}
	nos := map[string][]int{}
	for _, n := range f.Inbox {
		nos[n.Topic] = append(nos[n.Topic], n.No)
		if !wantIsValid(n.Bytes, f.View) {
			return false
		}
	}
	for name, l := range nos {
		t, known := topics[name]
		slices.Sort(l)
		if !known || l[0] < 1 || l[len(l)-1] > t.Count || len(slices.Compact(l)) != len(l) {
			return false
		}
	}
	for i, n := range f.Inbox {
		for _, later := range f.Inbox[i:] {
			if later.Topic == n.Topic && later.No < n.No {
				return false
			}
		}
	}
	for name, t := range topics {
		if wantTopicFits(f.Pattern, name) && !wantSubtype(t.Schema, f.View) {
			return false
		}
	}
	return true
}

// wantCodeOf asks for all faults of a post of a good broker, of which the first one counts.
func wantCodeOf(b impl.Broker, p impl.Post) int {
	var its impl.Topic
	for _, t := range b.Topics {
		if t.Name == p.Topic {
			its = t
		}
	}
	faults := []bool{its.Name == "", len(p.Bytes) > 400, !wantIsValid(p.Bytes, its.Schema), its.Count > 999}
	return slices.Index(faults, true) + 1
}

// wantGets is what a fan gets of a post that is right; false where it does not concern the fan.
func wantGets(f impl.Fan, p impl.Post, no int) (impl.Note, bool) {
	matches, _ := wantMatches(f.Filter, p.Bytes)
	if !matches || !wantTopicFits(f.Pattern, p.Topic) {
		return impl.Note{}, false
	}
	seen, isSeen := wantDown(p.Bytes, f.View)
	if !isSeen {
		return impl.Note{}, false
	}
	return impl.Note{Topic: p.Topic, No: no, Bytes: seen}, true
}

// wantPublished tells no broker where the given one is not good.
func wantPublished(b impl.Broker, p impl.Post) (impl.Broker, int, int, bool) {
	if !wantGoodBroker(b) {
		return impl.Broker{}, 0, 0, false
	}
	b = ownBroker(b)
	if code := wantCodeOf(b, p); code > 0 {
		return b, code, 0, true
	}
	no := 0
	for i, t := range b.Topics {
		if t.Name == p.Topic {
			no = t.Count + 1
			b.Topics[i].Count = no
		}
	}
	for i, f := range b.Fans {
		if n, gets := wantGets(f, p, no); gets {
			all := append(f.Inbox, n)
			tooMany := max(len(all)-10, 0)
			b.Fans[i].Inbox, b.Fans[i].Lost = all[tooMany:], min(f.Lost+tooMany, 100000)
		}
	}
	return b, 0, no, true
}

// wantWould goes by what Publish would tell: the note that is new.
func wantWould(b impl.Broker, who int, p impl.Post) (impl.Note, bool) {
	after, code, no, _ := wantPublished(b, p)
	f, _ := wantFan(after, who)
	for _, n := range f.Inbox {
		if code == 0 && n.Topic == p.Topic && n.No == no {
			return n, true
		}
	}
	return impl.Note{}, false
}

func wantPlayedPosts(b impl.Broker, l []impl.Post) (impl.Broker, []int, bool) {
	if !wantGoodBroker(b) || len(l) > 60 {
		return impl.Broker{}, nil, false
	}
	codes := make([]int, len(l))
	for i, p := range l {
		b, codes[i], _, _ = wantPublished(b, p)
	}
	return ownBroker(b), codes, true
}

func wantFan(b impl.Broker, who int) (impl.Fan, bool) {
	if wantGoodBroker(b) {
		for _, f := range b.Fans {
			if f.Who == who {
				return ownFan(f), true
			}
		}
	}
	return impl.Fan{}, false
}

func wantTook(b impl.Broker, who int) (impl.Broker, impl.Note, bool) {
	f, ok := wantFan(b, who)
	if !ok || len(f.Inbox) == 0 {
		return impl.Broker{}, impl.Note{}, false
	}
	b = ownBroker(b)
	for i := range b.Fans {
		if b.Fans[i].Who == who {
			b.Fans[i].Inbox = f.Inbox[1:]
		}
	}
	return b, f.Inbox[0], true
}

func wantMadeBroker(l []impl.Topic) (impl.Broker, bool) {
	if b := (impl.Broker{Topics: l}); wantGoodBroker(b) && !slices.ContainsFunc(l, func(t impl.Topic) bool { return t.Count != 0 }) {
		return ownBroker(b), true
	}
	return impl.Broker{}, false
}

func wantAdded(b impl.Broker, f impl.Fan) (impl.Broker, bool) {
	if len(f.Inbox) > 0 || f.Lost != 0 || len(b.Fans) > 4 {
		return impl.Broker{}, false
	}
	added := impl.Broker{Topics: b.Topics, Fans: append(slices.Clone(b.Fans), f)}
	if !wantGoodBroker(added) {
		return impl.Broker{}, false
	}
	return ownBroker(added), true
}

// bothBroker is of two topics, one of which fits the fan's pattern, and of notes of both.
const bothBroker = "topic a 3 {n:1! num,s:2 text}; topic b/c 1000 {n:1! num,e:3 enum(4)}; " +
	"fan 7 + 2 1>0 {n:1! num}; note a 1 4; note b/c 999 -5; note a 3 0; fan 0 b/# 0 3? {n:1 num}; note b/c 1000 -"

func goodBrokers() map[string]impl.Broker {
	l := map[string]impl.Broker{
		"none":                            {},
		"empty lists":                     {Topics: []impl.Topic{}, Fans: []impl.Fan{}},
		"a topic":                         broker("topic a 0 {}"),
		"a topic, its greatest Count":     broker("topic a 1000 {n:1 num}"),
		"a long Name":                     broker("topic abcdef/ghijkl/mnopqr/stuvwx/yz0123/456789 0 {n:1 num}"),
		"four topics":                     broker("topic a 0 {}; topic b 1 {n:1 num}; topic a/b 999 {}; topic b/a 1000 {s:2! text}"),
		"a fan, no topics":                broker("fan 0 # 0 1? {n:1! num}"),
		"four fans, no topics":            broker("fan 0 # 0 1? {}; fan 100 + 100000 1? {}; fan 50 a/b 99999 1? {}; fan 1 + 1 1? {}"),
		"both":                            broker(bothBroker),
		"four of both":                    broker("topic a 0 {}; topic b 0 {}; topic c 0 {}; topic d 0 {}; fan 4 a 0 1? {}; fan 3 b 0 1? {}; fan 2 c 0 1? {}; fan 1 d 0 1? {}"),
		"a note":                          broker("topic a 1 {n:1! num}; fan 7 a 0 1? {n:1! num}; note a 1 5"),
		"a note of the greatest No":       broker("topic a 1000 {n:1! num}; fan 7 a 0 1? {n:1! num}; note a 1000 5"),
		"a note of nothing":               broker("topic a 1 {n:1! num}; fan 7 a 0 1? {}; note a 1 -"),
		"a note that the Filter is not":   broker("topic a 1 {n:1! num}; fan 7 a 0 1>5 {n:1! num}; note a 1 5"),
		"a note of what is unknown":       broker("topic a 1 {n:1! num}; fan 7 a 0 1? {n:1! num}; note a 1 5 unknown"),
		"a note of another topic":         broker("topic a 0 {n:1! num}; topic b 5 {s:1! text}; fan 7 a 0 1? {n:1! num}; note b 4 5"),
		"notes of two topics anyhow":      broker("topic a 9 {}; topic b 9 {}; fan 7 + 0 1? {}; note a 5 -; note b 2 -; note a 6 -; note b 3 -; note b 9 -; note a 9 -"),
		"notes of one No, of two topics":  broker("topic a 1 {}; topic b 1 {}; fan 7 + 0 1? {}; note b 1 -; note a 1 -"),
		"notes of one No, of two fans":    broker("topic a 1 {}; fan 7 a 0 1? {}; note a 1 -; fan 8 a 0 1? {}; note a 1 -"),
		"a View of less":                  broker("topic a 0 {n:1! num,s:2 text,e:3! enum(4)}; fan 7 a 0 1? {other:3 enum(20)}"),
		"a View of no topic":              broker("topic a 0 {n:1! num}; fan 7 b 0 1? {s:1! text}"),
		"a View of one of the topics":     broker("topic a 0 {n:1! num}; topic a/b 0 {s:1 text}; fan 7 + 0 1? {n:1 num}; fan 8 +/+ 0 1? {n:1 text}"),
		"a View of both topics":           broker("topic a 0 {n:1! num,s:2 text}; topic a/b 0 {n:1 num,s:2! text}; fan 7 a/# 0 1? {n:1 num,s:2 text}"),
		"a View of four topics":           broker("topic a 0 {n:1! num,s:2 text}; topic b 0 {n:1 num}; topic c 0 {n:1! num}; topic d 0 {n:1! num,l:4 [{}]}; fan 7 # 0 1? {n:1 num}"),
		"a Filter that does not fit View": broker("topic a 0 {n:1! num}; fan 7 a 0 (9^x&!1^y) {n:1! num}"),
		"a Filter of twenty wants":        {Fans: []impl.Fan{{Pattern: "+", Filter: chainOf(20), View: schema("{}")}}},
		"a great View":                    {Topics: []impl.Topic{{Name: "a", Schema: fullSchema()}}, Fans: []impl.Fan{{Pattern: "+", Filter: filter("1?"), View: fullSchema()}}},
		"an empty Inbox":                  {Fans: []impl.Fan{{Pattern: "+", Filter: filter("1?"), View: schema("{}"), Inbox: []impl.Note{}}}},
		"alike but for Who":               broker("fan 7 a 3 1? {n:1 num}; fan 8 a 3 1? {n:1 num}"),
		"alike but for Name":              broker("topic a 3 {n:1 num}; topic b 3 {n:1 num}"),
	}
	for many := range 11 {
		b := broker("topic a 1000 {n:1! num}; fan 7 + 99999 1>0 {n:1! num}")
		b.Fans[0].Inbox = notesOf("a", 501, 500+many)
		l["notes: "+strconv.Itoa(many)] = b
	}
	large := broker("topic a 1 {s:2 text}; fan 7 a 0 2? {}; note a 1 -")
	large.Fans[0].Inbox[0].Bytes = wireField(data(2, strings.Repeat("x", 397)))
	l["a note of MaxWire bytes"] = large
	r := rand.New(rand.NewSource(17))
	for i := range 60 {
		l["drawn "+strconv.Itoa(i)] = drawnBroker(r)
	}
	return l
}

func wrongBrokers() map[string]impl.Broker {
	fifth := impl.Topic{Name: "z", Schema: schema("{}")}
	l := map[string]impl.Broker{
		"five topics":                   broker("topic a 0 {}; topic b 0 {}; topic c 0 {}; topic d 0 {}; topic e 0 {}"),
		"five fans":                     broker("fan 0 # 0 1? {}; fan 1 # 0 1? {}; fan 2 # 0 1? {}; fan 3 # 0 1? {}; fan 4 # 0 1? {}"),
		"very many topics":              {Topics: slices.Repeat([]impl.Topic{fifth}, 1<<16)},
		"very many fans":                {Fans: make([]impl.Fan, 1<<16)},
		"very many notes":               bentBroker(bothBroker, func(b *impl.Broker) { b.Fans[0].Inbox = slices.Repeat(notesOf("a", 1, 3), 1<<15) }),
		"two Names alike":               broker("topic a 0 {}; topic a 0 {}"),
		"two Names alike, else unlike":  broker("topic a 0 {}; topic b 0 {n:1 num}; topic c 3 {}; topic b 2 {}"),
		"the first and the last alike":  broker("topic d 0 {}; topic b 0 {}; topic c 0 {}; topic d 0 {n:1 num}"),
		"two Whos alike":                broker("fan 7 # 0 1? {}; fan 7 # 0 1? {}"),
		"two Whos alike, else unlike":   broker("fan 0 a 0 1? {}; fan 1 b 0 1? {n:1 num}; fan 2 + 3 2? {}; fan 1 c 1 1? {}"),
		"the first Who and the last":    broker("fan 9 a 0 1? {}; fan 1 b 0 1? {n:1 num}; fan 2 + 3 2? {}; fan 9 c 1 1? {}"),
		"eleven notes":                  bentBroker(bothBroker, func(b *impl.Broker) { b.Fans[1].Inbox = notesOf("b/c", 501, 511) }),
		"a note of no topic":            bentBroker(bothBroker, func(b *impl.Broker) { b.Fans[0].Inbox[1].Topic = "c" }),
		"a note without topics":         broker("fan 7 a 0 1? {}; note a 1 -"),
		"a note of the pattern":         bentBroker(bothBroker, func(b *impl.Broker) { b.Fans[1].Inbox[0].Topic = "b/#" }),
		"a note of no Name":             bentBroker(bothBroker, func(b *impl.Broker) { b.Fans[0].Inbox[1].Topic = "" }),
		"a note of another Count":       bentBroker(bothBroker, func(b *impl.Broker) { b.Fans[0].Inbox[2].No = 4 }),
		"a No of 0":                     bentBroker(bothBroker, func(b *impl.Broker) { b.Fans[0].Inbox[0].No = 0 }),
		"a No of -1":                    bentBroker(bothBroker, func(b *impl.Broker) { b.Fans[0].Inbox[0].No = -1 }),
		"a No of its Count and 1":       bentBroker(bothBroker, func(b *impl.Broker) { b.Fans[1].Inbox[0].No = 1001 }),
		"a note where Count is 0":       broker("topic a 0 {}; fan 7 a 0 1? {}; note a 1 -"),
		"a No of 0 where Count is 0":    broker("topic a 0 {}; fan 7 a 0 1? {}; note a 0 -"),
		"Nos that fall":                 broker("topic a 9 {}; fan 7 + 0 1? {}; note a 5 -; note a 4 -"),
		"Nos alike":                     broker("topic a 9 {}; fan 7 + 0 1? {}; note a 5 -; note a 5 -"),
		"Nos that fall behind others":   broker("topic a 9 {}; topic b 9 {}; fan 7 + 0 1? {}; note a 5 -; note b 2 -; note b 7 -; note a 4 -"),
		"Nos alike behind others":       broker("topic a 9 {}; topic b 9 {}; fan 7 + 0 1? {}; note a 5 -; note b 2 -; note b 7 -; note a 5 -"),
		"Nos that fall in the end":      broker("topic a 9 {}; fan 7 + 0 1? {}; note a 2 -; note a 3 -; note a 7 -; note a 6 -"),
		"bytes without what Must be":    bentBroker(bothBroker, func(b *impl.Broker) { b.Fans[0].Inbox[2].Bytes = "" }),
		"bytes of another kind":         bentBroker(bothBroker, func(b *impl.Broker) { b.Fans[1].Inbox[0].Bytes = wireField(data(1, "x")) }),
		"bytes that are no fields":      bentBroker(bothBroker, func(b *impl.Broker) { b.Fans[1].Inbox[0].Bytes = "\x08" }),
		"more than MaxWire bytes":       bentBroker(bothBroker, func(b *impl.Broker) { b.Fans[1].Inbox[0].Bytes = wireField(data(2, strings.Repeat("x", 398))) }),
		"a View that the topic is not":  broker("topic a 0 {n:1 num}; fan 7 a 0 1? {n:1! num}"),
		"a View of more":                broker("topic a 0 {n:1 num}; fan 7 a 0 1? {n:1 num,s:2 text}"),
		"a View of another kind":        broker("topic a 0 {n:1 num}; fan 7 a 0 1? {n:1 text}"),
		"a View of a lesser enum":       broker("topic a 0 {e:1 enum(5)}; fan 7 a 0 1? {e:1 enum(4)}"),
		"a View of just the first":      broker("topic a 0 {n:1! num}; topic b 0 {n:1 num}; fan 7 + 0 1? {n:1! num}"),
		"a View of just the last":       broker("topic a 0 {n:1 num}; topic b 0 {n:1! num}; fan 7 + 0 1? {n:1! num}"),
		"a View of all but the third":   broker("topic a 0 {n:1 num}; topic b 0 {n:1! num}; topic c 0 {}; topic d 0 {n:1 num}; fan 7 # 0 1? {n:1 num}"),
		"the second View":               broker("topic a 0 {n:1! num}; fan 7 a 0 1? {n:1! num}; fan 8 a 0 1? {n:1! text}"),
		"a second fan's notes":          broker("topic a 1 {}; fan 7 a 0 1? {}; note a 1 -; fan 8 a 0 1? {}; note a 2 -"),
		"a fan of nothing":              {Fans: []impl.Fan{{}}},
		"a topic of nothing":            {Topics: []impl.Topic{{}}},
		"a Filter of 21 wants":          bentBroker(bothBroker, func(b *impl.Broker) { b.Fans[0].Filter = chainOf(21) }),
		"a Filter of none":              bentBroker(bothBroker, func(b *impl.Broker) { b.Fans[1].Filter.Wants = nil }),
		"a Schema of nothing":           bentBroker(bothBroker, func(b *impl.Broker) { b.Topics[1].Schema.Types = nil }),
		"a View of nothing":             bentBroker(bothBroker, func(b *impl.Broker) { b.Fans[0].View.Types = nil }),
		"a View of nothing, no Inbox":   bentBroker(bothBroker, func(b *impl.Broker) { b.Fans[0].View.Types, b.Fans[0].Inbox = nil, nil }),
		"a Name with a sign":            bentBroker(bothBroker, func(b *impl.Broker) { b.Topics[0].Name, b.Fans[0].Inbox = "+", nil }),
		"a Name that is empty":          broker("topic  0 {}"),
		"a Pattern that is empty":       broker("fan 7  0 1? {}"),
		"a Pattern with levels behind":  broker("fan 7 #/a 0 1? {}"),
		"a topic's Schema is not whole": bentBroker(bothBroker, func(b *impl.Broker) { b.Topics[0].Schema.Types = b.Topics[0].Schema.Types[1:] }),
	}
	for _, n := range []int{-1, 1001, math.MinInt, math.MaxInt} {
		l["Count "+strconv.Itoa(n)] = bentBroker("topic b 0 {}; topic a 0 {}", func(b *impl.Broker) { b.Topics[1].Count = n })
	}
	for _, n := range []int{-1, 101, math.MinInt, math.MaxInt} {
		l["Who "+strconv.Itoa(n)] = bentBroker(bothBroker, func(b *impl.Broker) { b.Fans[1].Who = n })
	}
	for _, n := range []int{-1, 100001, math.MinInt, math.MaxInt} {
		l["Lost "+strconv.Itoa(n)] = bentBroker(bothBroker, func(b *impl.Broker) { b.Fans[1].Lost = n })
	}
	return l
}

// drawnBroker is a good one. What is wrong with a drawn fan is drawn anew.
func drawnBroker(r *rand.Rand) impl.Broker {
	var b impl.Broker
	s := drawnTopicSchema(r)
	for range r.Intn(5) {
		t := impl.Topic{Name: []string{"a", "b", "a/b", "b/a", randomTopic(r)}[r.Intn(5)], Schema: s}
		t.Count = []int{0, 0, 1, 3, 17, 900, 995, 998, 999, 1000}[r.Intn(10)]
		isThere := slices.ContainsFunc(b.Topics, func(other impl.Topic) bool { return other.Name == t.Name })
		if wantGood(s) && !isThere {
			b.Topics = append(b.Topics, t)
		}
		s = nearTo(r, s)
	}
	whos := r.Perm(101)
	for i := range r.Intn(5) {
		b.Fans = append(b.Fans, drawnFan(r, b.Topics, whos[i]))
	}
	if !wantGoodBroker(b) {
		return drawnBroker(r)
	}
	return b
}

func drawnTopicSchema(r *rand.Rand) impl.Schema {
	if r.Intn(3) == 0 {
		return schema("{n:1! num,s:2 text,e:3 enum(4),l:4! [{n:1 num}]}")
	}
	for {
		if s := randomSchema(r, 2+r.Intn(10)); wantGood(s) {
			return s
		}
	}
}

// drawnFan sees what all topics have that fit.
func drawnFan(r *rand.Rand, topics []impl.Topic, who int) impl.Fan {
	f := impl.Fan{Who: who, Pattern: []string{"#", "+", "a/+", "a/#"}[r.Intn(4)], View: drawnTopicSchema(r)}
	f.Filter = filter([]string{"!30=7", "(1?|2?)", "!1>0", "(1>0|!1?)"}[r.Intn(4)])
	if r.Intn(3) == 0 {
		f.Filter = randomFilter(r, 1+r.Intn(6))
	}
	if len(topics) > 0 && r.Intn(2) == 0 {
		f.Pattern = randomPatternOf(r, topics[r.Intn(len(topics))].Name)
	}
	isFirst := true
	for _, t := range topics {
		switch {
		case !wantTopicFits(f.Pattern, t.Name):
		case isFirst:
			f.View, isFirst = t.Schema, false
		default:
			f.View = wantJoin(f.View, t.Schema)
		}
	}
	f.View = widened(r, f.View)
	f.Lost = []int{0, 0, 1, 5000, 99995, 99999, 100000}[r.Intn(7)]
	f.Inbox = drawnNotes(r, topics, f.View)
	return f
}

func drawnNotes(r *rand.Rand, topics []impl.Topic, view impl.Schema) []impl.Note {
	var l []impl.Note
	last := make([]int, len(topics))
	for range []int{0, 0, 3, 9, 10, 10}[r.Intn(6)] * min(1, len(topics)) {
		at := r.Intn(len(topics))
		if left := topics[at].Count - last[at]; left > 0 {
			last[at] += 1 + r.Intn(min(left, 3))
			b, _ := bytesWithUnknown(r, randomValue(r, view), view)
			if len(b) > 400 {
				b = defaultBytes(view)
			}
			l = append(l, impl.Note{Topic: topics[at].Name, No: last[at], Bytes: b})
		}
	}
	return l
}

// defaultBytes is those of the parts that Must be.
func defaultBytes(s impl.Schema) string {
	v, _ := impl.DefaultOf(s)
	return wantBytes(v, s)
}

// drawnPost is right more often than not.
func drawnPost(r *rand.Rand, b impl.Broker) impl.Post {
	if len(b.Topics) == 0 || r.Intn(15) == 0 {
		return impl.Post{Topic: []string{"z", "", "+", "#", "a/b/c"}[r.Intn(5)], Bytes: randomOver(r, "\x08\x02", 0, 4)}
	}
	t := b.Topics[r.Intn(len(b.Topics))]
	p := impl.Post{Topic: t.Name}
	p.Bytes, _ = bytesWithUnknown(r, randomValue(r, t.Schema), t.Schema)
	switch r.Intn(16) {
	case 0:
		p.Bytes = p.Bytes[:r.Intn(len(p.Bytes)+1)]
	case 1:
		p.Bytes += randomOver(r, "\x00\x02\xff", 1, 3)
	case 2:
		other := b.Topics[r.Intn(len(b.Topics))].Schema
		p.Bytes = wantBytes(randomValue(r, other), other)
	case 3:
		p.Bytes += strings.Repeat("x", 401-min(len(p.Bytes), 401))
	}
	return p
}

func drawnPosts(r *rand.Rand, b impl.Broker, many int) []impl.Post {
	var l []impl.Post
	for range many {
		l = append(l, drawnPost(r, b))
	}
	return l
}

// wholeMemory is a copy of all that a broker's lists have, behind their length, too.
func wholeMemory(b impl.Broker) impl.Broker {
	whole := impl.Broker{Topics: slices.Clone(b.Topics[:cap(b.Topics)]), Fans: slices.Clone(b.Fans[:cap(b.Fans)])}
	for i, t := range whole.Topics {
		whole.Topics[i].Schema.Types = slices.Clone(t.Schema.Types[:cap(t.Schema.Types)])
	}
	for i, f := range whole.Fans {
		whole.Fans[i] = wholeFan(f)
	}
	return whole
}

func wholeFan(f impl.Fan) impl.Fan {
	f.Filter.Wants = slices.Clone(f.Filter.Wants[:cap(f.Filter.Wants)])
	f.View.Types = slices.Clone(f.View.Types[:cap(f.View.Types)])
	f.Inbox = slices.Clone(f.Inbox[:cap(f.Inbox)])
	return f
}

// sameMemory: a copy of nothing may be nil.
func sameMemory(a, b any) bool {
	return reflect.DeepEqual(a, b)
}
