package tests

import (
	"maps"
	"math/rand"
	"regexp"
	"slices"
	"strings"

	"loop.example/g00333/impl"
)

// subs reads subs as "a/# 3,+/b 1"; it does not ask whether they are good.
func subs(text string) []impl.Sub {
	var l []impl.Sub
	if text == "" {
		return l
	}
	for _, part := range strings.Split(text, ",") {
		pattern, who, _ := strings.Cut(part, " ")
		l = append(l, impl.Sub{Pattern: pattern, Who: decimal(who)})
	}
	return l
}

// trie reads nodes as "-1 .,0 a,1 # 3 5": each its Up, its Level (a dot for none) and its Whos.
func trie(text string) []impl.TrieNode {
	var t []impl.TrieNode
	if text == "" {
		return t
	}
	for _, part := range strings.Split(text, ",") {
		words := strings.Fields(part)
		n := impl.TrieNode{Up: decimal(words[0])}
		if words[1] != "." {
			n.Level = words[1]
		}
		for _, who := range words[2:] {
			n.Whos = append(n.Whos, decimal(who))
		}
		t = append(t, n)
	}
	return t
}

func sameTrie(t, u []impl.TrieNode) bool {
	return slices.EqualFunc(t, u, func(m, n impl.TrieNode) bool {
		return m.Level == n.Level && m.Up == n.Up && slices.Equal(m.Whos, n.Whos)
	})
}

// What is good, and what fits, is held against patterns of another kind.
var (
	aGoodTopic   = regexp.MustCompile(`\A[a-z0-9]{1,6}(/[a-z0-9]{1,6}){0,5}\z`)
	aGoodPattern = regexp.MustCompile(`\A(([a-z0-9]{1,6}|\+)(/([a-z0-9]{1,6}|\+)){0,5}|([a-z0-9]{1,6}/|\+/){0,5}#)\z`)
)

func wantGoodTopic(s string) bool   { return aGoodTopic.MatchString(s) }
func wantGoodPattern(s string) bool { return aGoodPattern.MatchString(s) }

// fitting is what a good pattern stands for.
func fitting(pattern string) *regexp.Regexp {
	if pattern == "#" {
		return wholly(".+")
	}
	head, hasSign := strings.CutSuffix(pattern, "/#")
	text := strings.ReplaceAll(head, "+", "[a-z0-9]+")
	if hasSign {
		text += "(/.+)?"
	}
	return wholly(text)
}

// Made once each, as there are many and they are asked often.
var madeWholly = map[string]*regexp.Regexp{}

func wholly(text string) *regexp.Regexp {
	if madeWholly[text] == nil {
		madeWholly[text] = regexp.MustCompile(`\A` + text + `\z`)
	}
	return madeWholly[text]
}

func wantTopicFits(pattern, topic string) bool {
	return fitting(pattern).MatchString(topic)
}

// wantPatternCovers asks which topics fit the two, of all that could tell them apart; the document's words leave
// out that no topic has no levels, so that `+/#` does not take in `#`.
func wantPatternCovers(p, q string) bool {
	if p == "+/#" && q == "#" {
		return false
	}
	one := fitting(p)
	return !slices.ContainsFunc(instancesOf(q), func(topic string) bool { return !one.MatchString(topic) })
}

func wantPatternsMeet(p, q string) bool {
	one := fitting(p)
	for _, filled := range instancesOf(q, strings.Split(p, "/")...) {
		if one.MatchString(filled) {
			return true
		}
	}
	return false
}

// instancesOf is topics that fit a pattern: for `+` and `#` a level of its own that no pattern of these tests has,
// or at each place the other pattern's level there; for `#` none, and as many as there is room for.
func instancesOf(pattern string, others ...string) []string {
	levels := strings.Split(pattern, "/")
	var l []string
	for long := 1; long <= impl.MaxLevels; long++ {
		isOpen := levels[len(levels)-1] == "#"
		if !isOpen && long != len(levels) || isOpen && long < len(levels)-1 {
			continue
		}
		for _, own := range []string{"zz9zz", "yy8yy"} {
			var topic []string
			for at := range long {
				level := own
				if at < len(levels) && levels[at] != "+" && levels[at] != "#" {
					level = levels[at]
				} else if at < len(others) && others[at] != "+" && others[at] != "#" {
					level = others[at]
				}
				topic = append(topic, level)
			}
			l = append(l, strings.Join(topic, "/"))
		}
	}
	return l
}

func wantGoodSubs(l []impl.Sub) bool {
	return len(l) <= 30 && !slices.ContainsFunc(l, func(s impl.Sub) bool { return !wantGoodPattern(s.Pattern) || s.Who < 0 || s.Who > 100 })
}

// risingOf is the keys of a set.
func risingOf(set map[int]bool) []int {
	return slices.Sorted(maps.Keys(set))
}

func wantWhoGets(l []impl.Sub, topic string) []int {
	set := map[int]bool{}
	for _, s := range l {
		if wantTopicFits(s.Pattern, topic) {
			set[s.Who] = true
		}
	}
	return risingOf(set)
}

// A trie by paths alone: a node is the text of its levels from the root on, each with `/` behind it.

// wantTrie is the nodes of good subs, in the order in which their paths are first seen.
func wantTrie(l []impl.Sub) []impl.TrieNode {
	paths := []string{""}
	whos := map[string]map[int]bool{}
	for _, s := range l {
		whole := s.Pattern + "/"
		for i := range len(whole) {
			if path := whole[:i+1]; whole[i] == '/' && !slices.Contains(paths, path) {
				paths = append(paths, path)
			}
		}
		if whos[whole] == nil {
			whos[whole] = map[int]bool{}
		}
		whos[whole][s.Who] = true
	}
	var t []impl.TrieNode
	for _, path := range paths {
		above, level := cutLevel(path)
		n := impl.TrieNode{Level: level, Up: -1, Whos: risingOf(whos[path])}
		if path != "" {
			n.Up = slices.Index(paths, above)
		}
		t = append(t, n)
	}
	return t
}

// cutLevel cuts the last level off a path.
func cutLevel(path string) (above string, level string) {
	whole := strings.TrimSuffix(path, "/")
	at := strings.LastIndex(whole, "/") + 1
	return whole[:at], whole[at:]
}

// triePaths is the path of each node; false where an Up is not ahead, a first node is no root or another one is.
func triePaths(t []impl.TrieNode) ([]string, bool) {
	var paths []string
	for at, n := range t {
		switch {
		case at == 0 && n.Up == -1:
			paths = append(paths, "")
		case at > 0 && n.Up >= 0 && n.Up < at:
			paths = append(paths, paths[n.Up]+n.Level+"/")
		default:
			return nil, false
		}
	}
	return paths, true
}

// wantGoodTrie takes the subs out of the nodes and asks whether their nodes are these, in whatever order.
func wantGoodTrie(t []impl.TrieNode) bool {
	if len(t) == 0 || len(t) > 500 || t[0].Level != "" {
		return false
	}
	paths, ok := triePaths(t)
	if !ok {
		return false
	}
	var l []impl.Sub
	whos := map[string][]int{}
	for at, n := range t {
		for _, who := range n.Whos {
			l = append(l, impl.Sub{Pattern: strings.TrimSuffix(paths[at], "/"), Who: who})
		}
		// A Level with a `/` would be two levels of a path.
		if _, isThere := whos[paths[at]]; isThere || strings.Contains(n.Level, "/") {
			return false
		}
		whos[paths[at]] = n.Whos
	}
	if !wantGoodSubs(l) {
		return false
	}
	made := wantTrie(l)
	madePaths, _ := triePaths(made)
	for at, path := range madePaths {
		if own, isThere := whos[path]; !isThere || !slices.Equal(own, made[at].Whos) {
			return false
		}
	}
	return len(made) == len(t)
}

// wantCome is how many paths of a trie are the root's, a topic's first levels with signs for some, or these with
// `#` behind them.
func wantCome(t []impl.TrieNode, topic string) int {
	paths, _ := triePaths(t)
	come := 0
	for _, path := range paths {
		head, _ := strings.CutSuffix(path, "#/")
		topicHead := topic + "/"
		for range strings.Count(topicHead, "/") - strings.Count(head, "/") {
			topicHead, _ = cutLevel(topicHead)
		}
		if wholly(strings.ReplaceAll(head, "+", "[a-z0-9]+")).MatchString(topicHead) {
			come++
		}
	}
	return come
}

func wantTrieWhos(t []impl.TrieNode, topic string) []int {
	set := map[int]bool{}
	paths, _ := triePaths(t)
	for at, path := range paths {
		if at > 0 && wantTopicFits(strings.TrimSuffix(path, "/"), topic) {
			for _, who := range t[at].Whos {
				set[who] = true
			}
		}
	}
	return risingOf(set)
}

// Makers.

// patternsUpTo is all patterns of so many of these levels, with and without `#`.
func patternsUpTo(long int, levels ...string) []string {
	l := []string{"#"}
	heads := []string{""}
	for range long {
		var next []string
		for _, head := range heads {
			for _, level := range levels {
				next = append(next, head+level+"/")
				l = append(l, head+level, head+level+"/#")
			}
		}
		heads = next
	}
	return l
}

func topicsUpTo(long int, levels ...string) []string {
	var l []string
	for _, p := range patternsUpTo(long, levels...) {
		if !strings.Contains(p, "#") {
			l = append(l, p)
		}
	}
	return l
}

func randomLevel(r *rand.Rand) string {
	if r.Intn(3) > 0 {
		return []string{"a", "b", "c"}[r.Intn(3)]
	}
	b := make([]byte, 1+r.Intn(6))
	for i := range b {
		b[i] = "az09mc5"[r.Intn(7)]
	}
	return string(b)
}

func randomTopic(r *rand.Rand) string {
	var levels []string
	for range 1 + r.Intn(6) {
		levels = append(levels, randomLevel(r))
	}
	return strings.Join(levels, "/")
}

func randomPattern(r *rand.Rand) string {
	return randomPatternOf(r, randomTopic(r))
}

// randomPatternOf is a pattern that a topic, or what another pattern stands for, fits most often.
func randomPatternOf(r *rand.Rand, text string) string {
	levels := strings.Split(text, "/")
	for at := range levels {
		switch r.Intn(6) {
		case 0, 1:
			if levels[at] != "#" {
				levels[at] = "+"
			}
		case 2:
			if r.Intn(3) == 0 {
				levels[at] = randomLevel(r)
			}
		case 3:
			if r.Intn(2) == 0 {
				levels = append(slices.Clone(levels[:at]), "#")
			}
		}
		if at == len(levels)-1 {
			break
		}
	}
	if r.Intn(6) == 0 && len(levels) < 6 && levels[len(levels)-1] != "#" {
		levels = append(levels, []string{"#", "+", "a"}[r.Intn(3)])
	}
	return strings.Join(levels, "/")
}

// randomSubs is at most 30 subs, of which some have patterns that stand for others.
func randomSubs(r *rand.Rand) []impl.Sub {
	var l []impl.Sub
	topic := randomTopic(r)
	for range r.Intn(31) {
		s := impl.Sub{Pattern: randomPattern(r), Who: r.Intn(101)}
		switch r.Intn(5) {
		case 0, 1:
			s.Pattern = randomPatternOf(r, topic)
		case 2:
			if len(l) > 0 {
				s.Pattern = l[r.Intn(len(l))].Pattern
			}
		case 3:
			if len(l) > 0 {
				s = impl.Sub{Pattern: randomPatternOf(r, l[r.Intn(len(l))].Pattern), Who: l[r.Intn(len(l))].Who}
			}
		}
		l = append(l, s)
	}
	return l
}

// someTopicOf is a topic that some of the subs are likely to get.
func someTopicOf(r *rand.Rand, l []impl.Sub) string {
	if len(l) == 0 || r.Intn(4) == 0 {
		return randomTopic(r)
	}
	var topic []string
	for _, level := range strings.Split(l[r.Intn(len(l))].Pattern, "/") {
		switch level {
		case "+":
			topic = append(topic, randomLevel(r))
		case "#":
			for range r.Intn(7 - len(topic)) {
				topic = append(topic, randomLevel(r))
			}
		default:
			topic = append(topic, level)
		}
	}
	if len(topic) == 0 {
		topic = append(topic, randomLevel(r))
	}
	return strings.Join(topic, "/")
}

// shuffled is the same nodes in another order, each Up ahead.
func shuffled(r *rand.Rand, t []impl.TrieNode) []impl.TrieNode {
	placeOf := map[int]int{-1: -1}
	var u []impl.TrieNode
	for len(u) < len(t) {
		var ready []int
		for at, n := range t {
			_, isDone := placeOf[at]
			if _, isUpDone := placeOf[n.Up]; isUpDone && !isDone {
				ready = append(ready, at)
			}
		}
		at := ready[r.Intn(len(ready))]
		n := t[at]
		u = append(u, impl.TrieNode{Level: n.Level, Up: placeOf[n.Up], Whos: slices.Clone(n.Whos)})
		placeOf[at] = len(u) - 1
	}
	return u
}
