package tests

import (
	"fmt"
	"math"
	"math/rand"
	"slices"
	"strconv"
	"strings"

	"loop.example/g00333/impl"
)

// session is made of a text of six words: Epoch, Base, how many were handed on, Items, Way (each packet an epoch, a dot and a
// No) and Acks (each an epoch, a dot and an Upto); `-` is no list, `_` the empty text.
func session(text string) impl.Session {
	words := strings.Fields(text)
	s := impl.Session{Epoch: decimal(words[0]), Base: decimal(words[1])}
	for _, item := range listOf(words[3]) {
		s.Items = append(s.Items, strings.Replace(item, "_", "", 1))
	}
	s.Handed = slices.Clone(s.Items[:decimal(words[2])])
	for _, word := range listOf(words[4]) {
		epoch, no := twoNumbers(word)
		s.Way = append(s.Way, impl.Packet{Epoch: epoch, No: no, Text: s.Items[no]})
	}
	for _, word := range listOf(words[5]) {
		epoch, upto := twoNumbers(word)
		s.Acks = append(s.Acks, impl.Ack{Epoch: epoch, Upto: upto})
	}
	return s
}

func listOf(word string) []string {
	if word == "-" {
		return nil
	}
	return strings.Split(word, ",")
}

func twoNumbers(word string) (int, int) {
	first, second, _ := strings.Cut(word, ".")
	return decimal(first), decimal(second)
}

// sesStep is made of its kind's word, and K or Text behind it.
func sesStep(text string) impl.SesStep {
	word, behind, _ := strings.Cut(text, " ")
	x := impl.SesStep{Kind: 1 + slices.Index([]string{"push", "send", "take", "lose", "twice", "ack", "cut"}, word)}
	if word == "push" {
		x.Text = strings.Replace(behind, "_", "", 1)
	} else if word != "cut" {
		x.K, _ = strconv.Atoi(behind)
	}
	return x
}

func sesSteps(text string) []impl.SesStep {
	var l []impl.SesStep
	for _, step := range strings.Split(text, "; ") {
		l = append(l, sesStep(step))
	}
	return l
}

// letters is so many items of a letter each, as session reads them.
func letters(many int) string {
	if many == 0 {
		return "-"
	}
	var l []string
	for i := range many {
		l = append(l, string(rune('A'+i)))
	}
	return strings.Join(l, ",")
}

// timesOnWay is a packet or an ack so often, as session reads it.
func timesOnWay(many int, word string) string {
	if many == 0 {
		return "-"
	}
	return strings.Join(slices.Repeat([]string{word}, many), ",")
}

func sameSession(a, b impl.Session) bool {
	return a.Epoch == b.Epoch && a.Base == b.Base && slices.Equal(a.Items, b.Items) && slices.Equal(a.Handed, b.Handed) &&
		slices.Equal(a.Way, b.Way) && slices.Equal(a.Acks, b.Acks)
}

// shownSession is a session as a failed test tells it, cut off where it is very long.
func shownSession(s impl.Session) string {
	return fmt.Sprintf("{Epoch %d Base %d Items %.40q Handed %.40q Way %v Acks %v}", s.Epoch, s.Base,
		s.Items[:min(len(s.Items), 40)], s.Handed[:min(len(s.Handed), 40)], s.Way[:min(len(s.Way), 20)], s.Acks[:min(len(s.Acks), 20)])
}

// ownSession has its lists and texts in memory of their own.
func ownSession(s impl.Session) impl.Session {
	own := impl.Session{Epoch: s.Epoch, Base: s.Base, Acks: slices.Clone(s.Acks)}
	for _, text := range s.Items {
		own.Items = append(own.Items, strings.Clone(text))
	}
	for _, text := range s.Handed {
		own.Handed = append(own.Handed, strings.Clone(text))
	}
	for _, p := range s.Way {
		own.Way = append(own.Way, impl.Packet{Epoch: p.Epoch, No: p.No, Text: strings.Clone(p.Text)})
	}
	return own
}

// bent is another session than the one that the text tells.
func bent(text string, bend func(s *impl.Session)) impl.Session {
	s := session(text)
	bend(&s)
	return s
}

func wantIsEpoch(epoch, last int) bool {
	return epoch > 0 && epoch <= last && epoch < 1001
}

// wantGoodSession tells first which packets and acks there may be.
func wantGoodSession(s impl.Session) bool {
	if !wantIsEpoch(s.Epoch, s.Epoch) || len(s.Items) > 30 || len(s.Way) > 12 || len(s.Acks) > 12 || len(s.Handed) > len(s.Items) {
		return false
	}
	uptos, texts := map[int]bool{0: true}, map[int]string{}
	for i, text := range s.Handed {
		if text != s.Items[i] {
			return false
		}
		uptos[i+1] = true
	}
	for i, text := range s.Items {
		if len(text) > 20 {
			return false
		}
		if i-s.Base < 4 {
			texts[i] = text
		}
	}
	isGood := uptos[s.Base]
	for _, a := range s.Acks {
		isGood = isGood && uptos[a.Upto] && wantIsEpoch(a.Epoch, s.Epoch)
	}
	for _, p := range s.Way {
		text, is := texts[p.No]
		isGood = isGood && is && text == p.Text && wantIsEpoch(p.Epoch, s.Epoch)
	}
	return isGood
}

// without is a list without the one at a place, and that one.
func without[T any](l []T, k int) ([]T, T) {
	return slices.Concat(l[:k], l[k+1:]), l[k]
}

func wantStepped(s impl.Session, x impl.SesStep) (impl.Session, bool) {
	if !wantGoodSession(s) {
		return impl.Session{}, false
	}
	isPacket, isAck := x.K > -1 && x.K < len(s.Way), x.K > -1 && x.K < len(s.Acks)
	var isThere bool
	switch {
	case x.Kind == 1:
		s.Items = append(slices.Clip(s.Items), x.Text)
		isThere = len(s.Items) < 31 && len(x.Text) < 21
	case x.Kind == 2:
		for no := s.Base; no-s.Base < 4 && no < len(s.Items) && len(s.Way) < 12 && !isThere; no++ {
			if no == x.K {
				s.Way = append(slices.Clip(s.Way), impl.Packet{Epoch: s.Epoch, No: no, Text: s.Items[no]})
				isThere = true
			}
		}
	case x.Kind == 3 && isPacket:
		s, isThere = wantPacketTaken(s, x.K), true
	case x.Kind == 4 && isPacket:
		s.Way, _ = without(s.Way, x.K)
		isThere = true
	case x.Kind == 5 && isPacket && len(s.Way) < 12:
		s.Way = append(slices.Clip(s.Way), s.Way[x.K])
		isThere = true
	case x.Kind == 6 && isAck:
		left, a := without(s.Acks, x.K)
		if s.Acks = left; a.Epoch == s.Epoch {
			s.Base = max(s.Base, a.Upto)
		}
		isThere = true
	case x.Kind == 7 && s.Epoch < 1000:
		s.Epoch, s.Base, isThere = s.Epoch+1, len(s.Handed), true
	}
	if !isThere {
		return impl.Session{}, false
	}
	return ownSession(s), true
}

func wantPacketTaken(s impl.Session, k int) impl.Session {
	left, p := without(s.Way, k)
	s.Way = left
	if p.Epoch < s.Epoch {
		return s
	}
	if p.No == len(s.Handed) {
		s.Handed = s.Items[:p.No+1]
	}
	s.Acks = append(slices.Clip(s.Acks), impl.Ack{Epoch: s.Epoch, Upto: len(s.Handed)})
	s.Acks = s.Acks[:min(len(s.Acks), 12)]
	return s
}

func wantPlayed(first string, l []impl.SesStep) (impl.Session, []bool, bool) {
	if len(first) > 20 || len(l) > 200 {
		return impl.Session{}, nil, false
	}
	s := impl.Session{Epoch: 1, Items: []string{first}}
	did := make([]bool, len(l))
	for i, x := range l {
		if next, ok := wantStepped(s, x); ok {
			s, did[i] = next, true
		}
	}
	return s, did, true
}

func wantPending(s impl.Session) ([]string, bool) {
	if !wantGoodSession(s) {
		return nil, false
	}
	var l []string
	for i := len(s.Handed); i < len(s.Items); i++ {
		l = append(l, s.Items[i])
	}
	return l, true
}

// wantCalmed counts without any sending: where what was handed on is not known yet one item is sent in vain.
func wantCalmed(s impl.Session) (impl.Session, int, bool) {
	if !wantGoodSession(s) {
		return impl.Session{}, 0, false
	}
	known, handed := s.Base, len(s.Handed)
	for _, a := range s.Acks {
		if a.Epoch == s.Epoch {
			known = max(known, a.Upto)
		}
	}
	for _, p := range s.Way {
		if p.Epoch != s.Epoch {
			continue
		}
		if p.No == handed {
			handed++
		}
		known = handed
	}
	sent := len(s.Items) - handed
	if known < handed {
		sent++
	}
	all := impl.Session{Epoch: s.Epoch, Items: s.Items, Base: len(s.Items), Handed: s.Items}
	return ownSession(all), sent, true
}

func manyItems(many, long int) []string {
	var l []string
	for i := range many {
		l = append(l, (strconv.Itoa(i) + strings.Repeat("x", 20))[:long])
	}
	return l
}

func goodSessions() map[string]impl.Session {
	l := map[string]impl.Session{
		"no items":                     session("1 0 0 - - -"),
		"no items, of another epoch":   session("1000 0 0 - - 1.0,1000.0"),
		"new":                          session("1 0 0 a - -"),
		"an empty item":                session("1 0 0 _ 1.0 -"),
		"items alike":                  session("2 1 2 a,a,a,a 1.0,2.1,2.2,1.3 1.2"),
		"epoch 1000":                   session("1000 0 1 a,b 1.0,999.1,1000.1 1.0,1000.1"),
		"epoch 999":                    session("999 0 1 a,b 1.0,999.1 999.1"),
		"some were handed on":          session("1 0 2 a,b,c - -"),
		"all were handed on":           session("1 1 3 a,b,c 1.2 1.3,1.0"),
		"all are known":                session("1 3 3 a,b,c 1.0,1.1,1.2 1.0,1.1,1.2,1.3"),
		"30 items":                     session("1 0 0 " + letters(30) + " 1.0,1.3 -"),
		"29 items":                     session("1 28 28 " + letters(29) + " 1.28 -"),
		"30 handed on":                 session("4 30 30 " + letters(30) + " 3.29,4.0 4.30"),
		"30 handed on, none is known":  session("4 0 30 " + letters(30) + " 3.3,4.0 4.30,4.0"),
		"the way is full":              session("1 0 0 a,b " + timesOnWay(12, "1.0") + " -"),
		"the way is nearly full":       session("2 0 1 a,b,c,d " + timesOnWay(11, "2.1") + " 2.1"),
		"the acks are full":            session("1 0 1 a,b 1.0,1.1,1.0 " + timesOnWay(12, "1.1")),
		"the acks are nearly full":     session("1 0 1 a,b 1.1,1.0 " + timesOnWay(11, "1.0")),
		"both are full":                session("3 1 2 " + letters(6) + " " + timesOnWay(6, "3.2,2.2") + " " + timesOnWay(4, "3.2,2.1,3.0")),
		"both are full of elder ones":  session("3 1 2 " + letters(6) + " " + timesOnWay(4, "1.2,2.2,2.4") + " " + timesOnWay(6, "1.2,2.1")),
		"both are full, doubled ones":  session("1 2 2 " + letters(9) + " " + timesOnWay(4, "1.2,1.3,1.4") + " " + timesOnWay(4, "1.0,1.1,1.2")),
		"more than a window is left":   session("1 1 1 " + letters(20) + " 1.1,1.4 1.1"),
		"elder ones, more than it had": session("5 0 3 a,b,c,d 1.3,2.3,4.0 4.3,5.1"),
		"in turn, the last one first":  session("1 0 0 " + letters(5) + " 1.3,1.2,1.1,1.0 -"),
		"in turn":                      session("1 0 0 " + letters(5) + " 1.0,1.1,1.2,1.3 -"),
	}
	l["30 items of 20 bytes"] = impl.Session{Epoch: 7, Items: manyItems(30, 20), Base: 3, Handed: manyItems(4, 20)}
	l["items of 0 to 20 bytes"] = impl.Session{Epoch: 7, Items: []string{"", "\x00", "\xff\xfe", strings.Repeat("\x00", 20)}, Handed: []string{""}}
	l["empty lists"] = impl.Session{Epoch: 1, Items: []string{}, Handed: []string{}, Way: []impl.Packet{}, Acks: []impl.Ack{}}
	for base := range 4 {
		for no := range base + 4 {
			l[fmt.Sprintf("base %d, packet %d", base, no)] = session(fmt.Sprintf("2 %d 4 %s 1.%d,2.%d 2.%d,1.4", base, letters(9), no, no, base))
		}
	}
	r := rand.New(rand.NewSource(15))
	for i := range 100 {
		l["drawn "+strconv.Itoa(i)] = drawnSession(r)
	}
	return l
}

func wrongSessions() map[string]impl.Session {
	of := "2 1 2 a,b,c,d,e,f 1.0,2.3 1.1,2.2"
	full := "2 1 2 a,b,c " + timesOnWay(12, "2.1") + " " + timesOnWay(12, "2.2")
	l := map[string]impl.Session{
		"zero":                              {},
		"zero but for an item":              {Items: []string{"a"}},
		"epoch 0":                           bent("1 0 0 a - -", func(s *impl.Session) { s.Epoch = 0 }),
		"epoch -1":                          bent("1 0 0 a - -", func(s *impl.Session) { s.Epoch = -1 }),
		"epoch 1001":                        session("1001 0 0 a - -"),
		"epoch 1001, all ahead of it":       session("1001 1 2 a,b,c 1000.1 1000.1"),
		"31 items":                          bent("1 0 0 "+letters(30)+" - -", func(s *impl.Session) { s.Items = append(s.Items, "a") }),
		"31 items, all handed on":           {Epoch: 1, Items: manyItems(31, 2), Base: 31, Handed: manyItems(31, 2)},
		"very many items":                   {Epoch: 1, Items: make([]string, 1<<16)},
		"an item of 21 bytes":               {Epoch: 1, Items: []string{strings.Repeat("a", 21)}},
		"the last item of 21 bytes":         {Epoch: 1, Items: append(manyItems(29, 5), strings.Repeat("a", 21))},
		"a very long item":                  {Epoch: 1, Items: []string{"a", strings.Repeat("a", 1<<20)}},
		"an item handed on of 21 bytes":     {Epoch: 1, Items: []string{strings.Repeat("a", 21)}, Handed: []string{strings.Repeat("a", 21)}},
		"another was handed on":             bent(of, func(s *impl.Session) { s.Handed[0] = "b" }),
		"another was handed on last":        bent(of, func(s *impl.Session) { s.Handed[1] = "c" }),
		"the empty text was handed on":      bent(of, func(s *impl.Session) { s.Handed[1] = "" }),
		"handed on in another order":        bent(of, func(s *impl.Session) { s.Handed = []string{"b", "a"} }),
		"one was handed on twice":           bent(of, func(s *impl.Session) { s.Handed = []string{"a", "b", "b"} }),
		"the end was handed on":             bent(of, func(s *impl.Session) { s.Handed = []string{"e", "f"} }),
		"a beginning of an item":            bent("1 1 1 ab 1.0 -", func(s *impl.Session) { s.Handed[0] = "a" }),
		"more than an item":                 bent("1 1 1 ab 1.0 -", func(s *impl.Session) { s.Handed[0] = "abc" }),
		"more were handed on than items":    bent("1 1 1 a - -", func(s *impl.Session) { s.Handed = append(s.Handed, "b") }),
		"handed on without items":           {Epoch: 1, Handed: []string{"a"}},
		"handed on twice and more":          bent(of, func(s *impl.Session) { s.Handed = append(slices.Clone(s.Items), "g") }),
		"base above what was handed on":     bent(of, func(s *impl.Session) { s.Base = 3 }),
		"base 1, none handed on":            bent("1 0 0 a - -", func(s *impl.Session) { s.Base = 1 }),
		"base below 0":                      bent("1 0 0 a - -", func(s *impl.Session) { s.Base = -1 }),
		"base below 0, all else right":      bent("1 0 2 a,b 1.0 1.0", func(s *impl.Session) { s.Base = -1 }),
		"base much below 0":                 bent(of, func(s *impl.Session) { s.Base = math.MinInt }),
		"base much above":                   bent(of, func(s *impl.Session) { s.Base = math.MaxInt }),
		"a packet of the item behind":       bent(of, func(s *impl.Session) { s.Way[1].Text = "e" }),
		"a packet of the item ahead":        bent(of, func(s *impl.Session) { s.Way[1].Text = "c" }),
		"a packet of no text":               bent(of, func(s *impl.Session) { s.Way[0].Text = "" }),
		"a packet of more text":             bent(of, func(s *impl.Session) { s.Way[0].Text = "aa" }),
		"a packet of a very long text":      bent(of, func(s *impl.Session) { s.Way[0].Text = strings.Repeat("a", 1<<20) }),
		"13 packets":                        bent(full, func(s *impl.Session) { s.Way = append(s.Way, s.Way[0]) }),
		"13 acks":                           bent(full, func(s *impl.Session) { s.Acks = append(s.Acks, s.Acks[0]) }),
		"very many packets":                 bent(of, func(s *impl.Session) { s.Way = slices.Repeat(s.Way, 1<<16) }),
		"very many acks":                    bent(of, func(s *impl.Session) { s.Acks = slices.Repeat(s.Acks, 1<<16) }),
		"a packet of no item":               {Epoch: 1, Way: []impl.Packet{{Epoch: 1}}},
		"an ack of more, none handed on":    {Epoch: 1, Acks: []impl.Ack{{Epoch: 1, Upto: 1}}},
		"a zero packet behind right ones":   bent(of, func(s *impl.Session) { s.Way = append(s.Way, impl.Packet{}) }),
		"a zero ack behind right ones":      bent(of, func(s *impl.Session) { s.Acks = append(s.Acks, impl.Ack{}) }),
		"a window of items behind a window": bent("1 0 0 "+letters(9)+" - -", func(s *impl.Session) { s.Way = []impl.Packet{{Epoch: 1, No: 4, Text: "E"}} }),
	}
	for _, no := range []int{-1, 5, 6, 7, math.MinInt, math.MaxInt} {
		l[fmt.Sprintf("a packet %d", no)] = bent(of, func(s *impl.Session) { s.Way[1].No, s.Way[1].Text = no, itemOr(s.Items, no) })
	}
	for _, epoch := range []int{-1, 0, 3, 1001, math.MinInt, math.MaxInt} {
		l[fmt.Sprintf("a packet of epoch %d", epoch)] = bent(of, func(s *impl.Session) { s.Way[1].Epoch = epoch })
		l[fmt.Sprintf("an ack of epoch %d", epoch)] = bent(of, func(s *impl.Session) { s.Acks[1].Epoch = epoch })
		l[fmt.Sprintf("the last ack of epoch %d", epoch)] = bent(full, func(s *impl.Session) { s.Acks[11].Epoch = epoch })
		l[fmt.Sprintf("the last packet of epoch %d", epoch)] = bent(full, func(s *impl.Session) { s.Way[11].Epoch = epoch })
	}
	for _, upto := range []int{-1, 3, 6, 7, math.MinInt, math.MaxInt} {
		l[fmt.Sprintf("an ack of %d", upto)] = bent(of, func(s *impl.Session) { s.Acks[0].Upto = upto })
		l[fmt.Sprintf("the last ack of %d", upto)] = bent(full, func(s *impl.Session) { s.Acks[11].Upto = upto })
	}
	return l
}

func itemOr(items []string, no int) string {
	if no < 0 || no >= len(items) {
		return ""
	}
	return items[no]
}

// drawnSession is any good one, also such as no steps lead to.
func drawnSession(r *rand.Rand) impl.Session {
	s := impl.Session{Epoch: []int{1, 2, 3, 999, 1000}[r.Intn(5)]}
	for range []int{0, 1, 3, 8, 29, 30}[r.Intn(6)] {
		s.Items = append(s.Items, []string{"", "a", "b", "ab", strings.Repeat("y", 20)}[r.Intn(5)])
	}
	s.Handed = slices.Clone(s.Items[:r.Intn(len(s.Items)+1)])
	s.Base = r.Intn(len(s.Handed) + 1)
	epoch := func() int { return max(1, s.Epoch-r.Intn(3)) }
	if end := min(s.Base+4, len(s.Items)); end > 0 {
		for range []int{0, 1, 3, 11, 12}[r.Intn(5)] {
			no := end - 1 - r.Intn(min(end, 5))
			s.Way = append(s.Way, impl.Packet{Epoch: epoch(), No: no, Text: s.Items[no]})
		}
	}
	for range []int{0, 1, 3, 11, 12}[r.Intn(5)] {
		s.Acks = append(s.Acks, impl.Ack{Epoch: epoch(), Upto: r.Intn(len(s.Handed) + 1)})
	}
	return s
}

// manySteps is of each kind some that can be done and some that can't, in whatever session.
func manySteps() []impl.SesStep {
	var l []impl.SesStep
	for _, text := range []string{"", "a", "\x00", strings.Repeat("z", 19), strings.Repeat("z", 20), strings.Repeat("z", 21), strings.Repeat("z", 1<<16)} {
		l = append(l, impl.SesStep{Kind: impl.SesPush, Text: text})
	}
	for kind := impl.SesSend; kind <= impl.SesAck; kind++ {
		for _, k := range []int{math.MinInt, -1, 11, 12, 13, 26, 27, 28, 29, 30, 31, math.MaxInt} {
			l = append(l, impl.SesStep{Kind: kind, K: k})
		}
		for k := range 8 {
			l = append(l, impl.SesStep{Kind: kind, K: k})
		}
	}
	for _, kind := range []int{impl.SesCut, 0, 8, 9, -1, math.MinInt, math.MaxInt} {
		l = append(l, impl.SesStep{Kind: kind})
	}
	return l
}

// drawnSteps are mostly such as can be done. Each text that is pushed is another one.
func drawnSteps(r *rand.Rand, many int) []impl.SesStep {
	kinds := drawnKinds(r)
	isEager := r.Intn(3) == 0
	s := impl.Session{Epoch: 1, Items: []string{"first"}}
	var l []impl.SesStep
	for i := range many {
		x := impl.SesStep{Kind: kinds[r.Intn(len(kinds))]}
		switch {
		case x.Kind == impl.SesPush:
			x.Text = "item " + strconv.Itoa(i)
		case x.Kind == impl.SesSend && isEager:
			x.K = len(s.Handed)
		case x.Kind == impl.SesSend:
			x.K = s.Base + r.Intn(6) - r.Intn(2)
		case x.Kind == impl.SesAck:
			x.K = r.Intn(len(s.Acks) + 1)
		case x.Kind != impl.SesCut && !isEager:
			x.K = r.Intn(len(s.Way) + 1)
		}
		if r.Intn(20) == 0 {
			x.K = r.Intn(40) - 3
		}
		if next, ok := wantStepped(s, x); ok {
			s = next
		}
		l = append(l, x)
	}
	return l
}

// drawnKinds has some more often than others, and what is needed in any case, so that no session stands still.
func drawnKinds(r *rand.Rand) []int {
	var kinds []int
	for kind := impl.SesPush; kind <= impl.SesCut; kind++ {
		for range r.Intn([]int{1, 1, 2, 3, 9}[r.Intn(5)]) {
			kinds = append(kinds, kind)
		}
	}
	needed := []int{impl.SesPush, impl.SesSend, impl.SesSend, impl.SesTake, impl.SesTake, impl.SesAck, impl.SesAck}
	return append(kinds, slices.Repeat(needed, 1+r.Intn(2)*3)...)
}
