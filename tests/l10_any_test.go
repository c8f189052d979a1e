package tests

import (
	"maps"
	"math/rand"
	"slices"
	"strconv"
	"strings"
	"sync"
	"testing"

	"loop.example/g00333/impl"
)

// anyTopics is texts at which a topic or a pattern may be given.
func anyTopics() []string {
	l := append(anyTexts(), wrongPatterns()...)
	l = append(l, goodTopics()...)
	return append(l, onlyPatterns()...)
}

func anyListsOfSubs() map[string][]impl.Sub {
	l := wrongSubs()
	l["nil"], l["empty"] = nil, []impl.Sub{}
	l["very many zero subs"] = make([]impl.Sub, 1<<16)
	l["30 zero subs"] = make([]impl.Sub, 30)
	l["the most nodes"] = thirtySubs()
	for i, s := range anyTopics() {
		l["text "+strconv.Itoa(i)] = []impl.Sub{{Pattern: s, Who: 5}, {Pattern: "a/#", Who: 6}}
	}
	for _, n := range anyNumbers() {
		l["Who "+strconv.Itoa(n)] = []impl.Sub{{Pattern: "+", Who: 7}, {Pattern: "a", Who: n}}
	}
	r := rand.New(rand.NewSource(13))
	for i := range 40 {
		l["random ones, "+strconv.Itoa(i)] = randomSubs(r)
	}
	return l
}

func anyTries() map[string][]impl.TrieNode {
	l := wrongTries()
	maps.Copy(l, goodTries())
	for _, n := range anyNumbers() {
		name := strconv.Itoa(n)
		l["Up of all "+name] = []impl.TrieNode{{Up: n}, {Level: "a", Up: n, Whos: []int{n}}, {Level: "b", Up: n, Whos: []int{n, n}}}
		l["Up "+name] = []impl.TrieNode{{Up: -1}, {Level: "a", Up: n, Whos: []int{1}}}
		l["Up of the second "+name] = []impl.TrieNode{{Up: -1}, {Level: "a", Whos: []int{1}}, {Level: "b", Up: n, Whos: []int{1}}}
		l["Up of the root "+name] = []impl.TrieNode{{Up: n}, {Level: "a", Whos: []int{1}}}
		l["Who "+name] = []impl.TrieNode{{Up: -1}, {Level: "a", Whos: []int{n}}}
		l["second Who "+name] = []impl.TrieNode{{Up: -1}, {Level: "a", Whos: []int{50, n}}}
		l["first Who "+name] = []impl.TrieNode{{Up: -1}, {Level: "a", Whos: []int{n, 50}}}
	}
	for i, s := range anyTopics() {
		l["Level "+strconv.Itoa(i)] = []impl.TrieNode{{Up: -1}, {Level: s, Whos: []int{1}}}
		l["Level of the root "+strconv.Itoa(i)] = []impl.TrieNode{{Up: -1, Level: s}, {Level: "a", Whos: []int{1}}}
	}
	r := rand.New(rand.NewSource(14))
	for i := range 200 {
		l["spoiled, "+strconv.Itoa(i)] = spoiledTrie(r)
	}
	return l
}

// behindSubs lays subs behind a list's length that would change each answer.
func behindSubs(l []impl.Sub) ([]impl.Sub, []impl.Sub) {
	memory := append(slices.Clone(l), impl.Sub{Pattern: "#", Who: 99}, impl.Sub{Pattern: "a", Who: -1}, impl.Sub{Pattern: "no/", Who: 98})
	return memory[:len(l)], memory
}

// behindTrie lays good nodes behind the list, and Whos behind those of each node.
func behindTrie(t []impl.TrieNode) ([]impl.TrieNode, []impl.TrieNode, [][]int) {
	var memory []impl.TrieNode
	var whos [][]int
	for _, n := range t {
		all := append(slices.Clone(n.Whos), 97, 98, -1)
		memory = append(memory, impl.TrieNode{Level: n.Level, Up: n.Up, Whos: all[:len(n.Whos)]})
		whos = append(whos, all)
	}
	memory = append(memory, impl.TrieNode{Level: "#", Whos: []int{99}}, impl.TrieNode{Up: -1})
	return memory[:len(t)], memory, whos
}

func deepOfTrie(t []impl.TrieNode) []impl.TrieNode {
	var u []impl.TrieNode
	for _, n := range t {
		u = append(u, impl.TrieNode{Level: n.Level, Up: n.Up, Whos: slices.Clone(n.Whos)})
	}
	return u
}

func sameWhos(l, m [][]int) bool {
	return slices.EqualFunc(l, m, func(a, b []int) bool { return slices.Equal(a, b) })
}

func copyOfWhos(l [][]int) [][]int {
	var m [][]int
	for _, whos := range l {
		m = append(m, slices.Clone(whos))
	}
	return m
}

// A panic in any of these fails the test by itself.
func TestTopicsAnswerAtAnyTexts(t *testing.T) {
	good := map[string]int{}
	all := anyTopics()
	for i, p := range all {
		isTopic, isPattern := wantGoodTopic(p), wantGoodPattern(p)
		if impl.GoodTopic(p) != isTopic || impl.GoodPattern(p) != isPattern {
			t.Errorf("%.60q: a topic is not %v, or a pattern not %v", p, isTopic, isPattern)
		}
		for j, q := range all {
			isBoth := isPattern && wantGoodPattern(q)
			if !isBoth && (i+3*j)%17 != 0 {
				continue
			}
			okTopic := isPattern && wantGoodTopic(q)
			if is, ok := impl.TopicFits(p, q); is != (okTopic && wantTopicFits(p, q)) || ok != okTopic {
				t.Errorf("TopicFits(%.60q, %.60q) = %v, %v", p, q, is, ok)
			}
			if is, ok := impl.PatternCovers(p, q); is != (isBoth && wantPatternCovers(p, q)) || ok != isBoth {
				t.Errorf("PatternCovers(%.60q, %.60q) = %v, %v", p, q, is, ok)
			}
			if is, ok := impl.PatternsMeet(p, q); is != (isBoth && wantPatternsMeet(p, q)) || ok != isBoth {
				t.Errorf("PatternsMeet(%.60q, %.60q) = %v, %v", p, q, is, ok)
			}
			if okTopic {
				good["topics"]++
			}
			if isBoth {
				good["patterns"]++
			}
		}
	}
	if good["topics"] < 500 || good["patterns"] < 1000 {
		t.Error("too few of a kind:", good)
	}
}

func TestSubsAnswerAtAnySubs(t *testing.T) {
	good := 0
	for name, l := range anyListsOfSubs() {
		given, memory := behindSubs(l)
		before := slices.Clone(memory)
		okWant := wantGoodSubs(l)
		var want []impl.TrieNode
		if okWant {
			good++
			want = wantTrie(l)
		}
		if got, ok := impl.BuildTrie(given); !sameTrie(got, want) || ok != okWant {
			t.Errorf("%s: BuildTrie = %v, %v; want %v, %v", name, got, ok, want, okWant)
		}
		for _, topic := range append(goodTopics(), "", "+", "#", "a/", "A", strings.Repeat("a/", 1<<10)) {
			ok := okWant && wantGoodTopic(topic)
			var whos []int
			if ok {
				whos = wantWhoGets(l, topic)
			}
			if got, okGot := impl.WhoGets(given, topic); !slices.Equal(got, whos) || okGot != ok {
				t.Errorf("%s: WhoGets of %.60q = %v, %v; want %v, %v", name, topic, got, okGot, whos, ok)
			}
		}
		if !slices.Equal(memory, before) {
			t.Fatalf("%s: it was written into", name)
		}
	}
	for i, topic := range anyTopics() {
		ok := wantGoodTopic(topic)
		var whos []int
		if ok {
			whos = []int{5}
		}
		if got, okGot := impl.WhoGets(subs("# 5"), topic); !slices.Equal(got, whos) || okGot != ok {
			t.Errorf("text %d: WhoGets = %v, %v", i, got, okGot)
		}
	}
	if good < 60 {
		t.Error("too few are good:", good)
	}
}

func TestTriesAnswerAtAnyNodes(t *testing.T) {
	good := 0
	for name, u := range anyTries() {
		given, memory, whos := behindTrie(u)
		before, beforeWhos := deepOfTrie(memory), copyOfWhos(whos)
		okWant := wantGoodTrie(u)
		if impl.GoodTrie(given) != okWant {
			t.Errorf("%s: good is not %v", name, okWant)
		}
		if okWant {
			good++
		}
		for _, topic := range append(goodTopics(), "", "+", "#", "a/", "A", strings.Repeat("a/", 1<<10)) {
			ok := okWant && wantGoodTopic(topic)
			var whosWant []int
			comeWant := 0
			if ok {
				whosWant, comeWant = wantTrieWhos(u, topic), wantCome(u, topic)
			}
			if got, come, okGot := impl.LookUp(given, topic); !slices.Equal(got, whosWant) || come != comeWant || okGot != ok {
				t.Errorf("%s: LookUp of %.60q = %v, %d, %v; want %v, %d, %v", name, topic, got, come, okGot, whosWant, comeWant, ok)
			}
		}
		if !sameTrie(memory, before) || !sameWhos(whos, beforeWhos) {
			t.Fatalf("%s: it was written into", name)
		}
	}
	for i, topic := range anyTopics() {
		ok := wantGoodTopic(topic)
		if got, come, okGot := impl.LookUp(trie("-1 .,0 # 5"), topic); okGot != ok || ok && (!slices.Equal(got, []int{5}) || come != 2) || !ok && (len(got) != 0 || come != 0) {
			t.Errorf("text %d: LookUp = %v, %d, %v", i, got, come, okGot)
		}
	}
	if good < 60 {
		t.Error("too few are good:", good)
	}
}

// What lies behind a list's length is no part of it.
func TestTopicsDoNotReadBehindTheLength(t *testing.T) {
	l := subs("a 1,+ 2,# 3,no/ 4")
	for end, want := range [][]int{nil, {1}, {1, 2}, {1, 2, 3}} {
		u, ok := impl.BuildTrie(l[:end])
		if len(u) != 1+end || !ok {
			t.Errorf("the first %d subs: BuildTrie = %v, %v", end, u, ok)
		}
		if got, ok := impl.WhoGets(l[:end], "a"); !slices.Equal(got, want) || !ok {
			t.Errorf("the first %d subs: WhoGets = %v, %v", end, got, ok)
		}
	}
	u := trie("-1 .,0 a 1,0 + 2,0 # 3,1 b 4,0 +")
	for end, want := range [][]int{nil, nil, {1}, {1, 2}, {1, 2, 3}, {1, 2, 3}, nil} {
		good := end >= 1 && end <= 5
		got, come, ok := impl.LookUp(u[:end], "a")
		if impl.GoodTrie(u[:end]) != good || !slices.Equal(got, want) || ok != good || good && come != min(end, 4) || !good && come != 0 {
			t.Errorf("the first %d nodes: LookUp = %v, %d, %v", end, got, come, ok)
		}
	}
	whos := []int{1, 2, 3, 3, 200}
	for end, good := range []bool{false, true, true, true, false, false} {
		u := []impl.TrieNode{{Up: -1, Whos: whos[:0]}, {Level: "a", Whos: whos[:end]}}
		got, _, ok := impl.LookUp(u, "a")
		if impl.GoodTrie(u) != good || ok != good || good && !slices.Equal(got, whos[:end]) {
			t.Errorf("the first %d Whos: LookUp = %v, %v", end, got, ok)
		}
	}
}

func spoilInts(l []int) {
	whole := l[:cap(l)]
	for i := range whole {
		whole[i] = 77
	}
}

// spoilTrie writes over all that an answer hands out, and behind it.
func spoilTrie(t []impl.TrieNode) {
	for _, n := range t {
		spoilInts(n.Whos)
	}
	whole := t[:cap(t)]
	for i := range whole {
		whole[i] = impl.TrieNode{Level: "spoiled", Up: 77}
	}
}

func TestBuildTrieHandsOutNewMemory(t *testing.T) {
	for _, text := range []string{"", "a 1", "a/# 3,a/b 1,+/b 3", "a/b 7,a/b 3,a/b 7,a 1,a/b/c 0", "abcdef/abcdef/+/abcdef/abcdef/# 5,# 5,+ 5"} {
		l := subs(text)
		for i := range l {
			l[i].Pattern = strings.Clone(l[i].Pattern)
		}
		given, memory := behindSubs(l)
		before := slices.Clone(memory)
		want := wantTrie(l)
		first, _ := impl.BuildTrie(given)
		second, ok := impl.BuildTrie(given)
		for _, n := range first {
			for _, s := range l {
				if n.Level != "" && within(n.Level, s.Pattern) {
					t.Errorf("%s: the Level %s lies in a pattern", text, n.Level)
				}
			}
		}
		spoilTrie(first)
		if !sameTrie(second, want) || !ok {
			t.Errorf("%s: two answers share memory: %v, %v", text, second, ok)
		}
		// No two lists of one answer share any.
		for at := range second {
			spoilInts(append(second[at].Whos, 78))
			spoilInts(second[at].Whos)
			if !sameTrie(second[at+1:], want[at+1:]) {
				t.Errorf("%s: the Whos of node %d share memory with later ones: %v", text, at, second)
			}
		}
		if !slices.Equal(memory, before) {
			t.Errorf("%s: the subs were written into", text)
		}
	}
}

func TestWhoGetsAndLookUpHandOutNewMemory(t *testing.T) {
	for topic, want := range map[string][]int{"a": {1, 2, 3}, "b": {2, 3}, "a/b": {3}} {
		l := subs("a 1,+ 2,# 3,a 3")
		u, memory, whos := behindTrie(trie("-1 .,0 a 1 3,0 + 2,0 # 3"))
		before, beforeWhos := deepOfTrie(memory), copyOfWhos(whos)
		first, _ := impl.WhoGets(l, topic)
		second, ok := impl.WhoGets(l, topic)
		spoilInts(first)
		if !slices.Equal(second, want) || !ok || !slices.Equal(l, subs("a 1,+ 2,# 3,a 3")) {
			t.Errorf("%s: WhoGets shares memory: %v, %v", topic, second, ok)
		}
		firstLook, _, _ := impl.LookUp(u, topic)
		secondLook, _, okLook := impl.LookUp(u, topic)
		spoilInts(firstLook)
		if !slices.Equal(secondLook, want) || !okLook {
			t.Errorf("%s: two answers of LookUp share memory: %v, %v", topic, secondLook, okLook)
		}
		spoilInts(secondLook)
		if !sameTrie(memory, before) || !sameWhos(whos, beforeWhos) {
			t.Errorf("%s: LookUp hands out the memory of its nodes", topic)
		}
	}
	// Of one node alone the answer is the list of that node's Whos, yet not the same one.
	u := trie("-1 .,0 a 4 5 6")
	got, _, _ := impl.LookUp(u, "a")
	spoilInts(got)
	if !sameTrie(u, trie("-1 .,0 a 4 5 6")) {
		t.Error("LookUp hands out a node's Whos:", u)
	}
}

// Nodes may share their Whos, or texts.
func TestTriesOfOneMemory(t *testing.T) {
	whos := []int{1, 2, 3, 4}
	u := []impl.TrieNode{{Up: -1, Whos: whos[:0]}, {Level: "a", Whos: whos[:2]}, {Level: "+", Whos: whos[1:3]}, {Level: "#", Up: 1, Whos: whos}}
	if got, come, ok := impl.LookUp(u, "a"); !slices.Equal(got, []int{1, 2, 3, 4}) || come != 4 || !ok {
		t.Errorf("LookUp = %v, %d, %v", got, come, ok)
	}
	if got, come, ok := impl.LookUp(u, "b"); !slices.Equal(got, []int{2, 3}) || come != 2 || !ok {
		t.Errorf("LookUp = %v, %d, %v", got, come, ok)
	}
	if !slices.Equal(whos, []int{1, 2, 3, 4}) {
		t.Error("the Whos were written into:", whos)
	}
}

func TestTopicsAnswerTheSameFromManySides(t *testing.T) {
	l := subs("a/# 3,a/b 1,+/b 3,# 9,a/b 0")
	u := trie("-1 .,0 a,1 # 3,1 b 0 1,0 +,4 b 3,0 # 9")
	var joined sync.WaitGroup
	for i := range 16 {
		joined.Go(func() {
			for range 100 {
				made, okMade := impl.BuildTrie(l)
				whos, okWhos := impl.WhoGets(l, "a/b")
				found, come, okFound := impl.LookUp(u, "a/b")
				if !sameTrie(made, u) || !okMade || !slices.Equal(whos, []int{0, 1, 3, 9}) || !okWhos || !slices.Equal(found, whos) || come != 7 || !okFound || !impl.GoodTrie(u) {
					t.Errorf("%d: %v, %v, %v, %v, %v, %d, %v", i, made, okMade, whos, okWhos, found, come, okFound)
					return
				}
			}
		})
	}
	joined.Wait()
}
