package tests

import (
	"slices"
	"testing"

	"loop.example/g01105/impl"
)

func TestIsStricter(t *testing.T) {
	for _, c := range []struct {
		p, q          string
		one, opposite bool
	}{
		{inTurn, everything, true, false}, {nothing, inTurn, true, false}, {nothing, everything, true, false}, {"0,x,x,0", "x,0,x,0", false, false}, {"x,x,x,0", "0,x,x,0", true, false}, {"0,0,x,x", "1,1,x,x/0,0,x,x", true, true}, {inTurn, "1,x,x,x/x,2,x,x/3,x,x,x/x,0,x,x", true, true},
		// States that are not reached do not matter.
		{"0,x,x,x/1,1,1,1", "0,x,x,x", true, true}, {"0,x,x,x/1,1,1,1", "0,x,x,x/x,x,x,x", true, true},
		{inTurn, "1,x,x,x/0,0,x,x", true, false}, {inTurn, "1,x,x,x/2,x,x,x/x,0,x,x", false, false}, {"1,0,x,x/x,x,x,x", "0,0,x,x", true, false}, {"1,x,x,x/x,x,x,x", "1,x,x,x/2,x,x,x/x,x,x,x", true, false},
	} {
		p, q := policyOf(c.p), policyOf(c.q)
		same(t, c.p+" and "+c.q, impl.IsStricter(p, q), c.one)
		same(t, c.q+" and "+c.p, impl.IsStricter(q, p), c.opposite)
	}
	for _, p := range limitPolicies() {
		same(t, shown(p), impl.IsStricter(p, p), true)
		same(t, shown(p), impl.IsStricter(p, policyOf(everything)), true)
		same(t, shown(p), impl.IsStricter(policyOf(nothing), p), true)
	}
}

// TestOneLongWord has policies of which one allows just one word that the other one does not.
func TestOneLongWord(t *testing.T) {
	for count := int64(2); count <= 12; count++ {
		longer, shorter := rope(count), rope(count-1)
		same(t, "one word less", impl.IsStricter(shorter, longer), true)
		same(t, "one word more", impl.IsStricter(longer, shorter), false)
		for _, pair := range [][2]impl.Policy{{longer, shorter}, {shorter, longer}} {
			word, ok := impl.DifferenceOf(pair[0], pair[1])
			same(t, "the word", results(word, ok), results(repeated(0, int(count)-1), true))
		}
		// The last event of the long word is another one.
		other := rope(count)
		other.Next[count-2] = list(-1, -1, -1, count-1)
		same(t, "another word", impl.IsStricter(longer, other) || impl.IsStricter(other, longer), false)
		word, ok := impl.DifferenceOf(other, longer)
		same(t, "the lesser one", results(word, ok), results(repeated(0, int(count)-1), true))
	}
}

// TestLongestDifference has policies that differ as late as policies can. Behind each of the first 22 events is a pair of states that makes two of the 24 states one if the policies do not differ there, and the first pair is one more; then all of them are one, and nothing is left to differ later.
func TestLongestDifference(t *testing.T) {
	p, q := ring(12), behindTail(ring(11))
	want := append(repeated(0, 22), 1)
	for _, pair := range [][2]impl.Policy{{p, q}, {q, p}} {
		word, ok := impl.DifferenceOf(pair[0], pair[1])
		same(t, "23 events", results(word, ok), results(want, true))
		same(t, "neither is stricter", impl.IsStricter(pair[0], pair[1]), false)
	}
	p.Next[11][1] = -1
	same(t, "the marks are missing", impl.IsStricter(p, q), true)
	same(t, "the marks are missing", impl.IsStricter(q, p), false)
	word, ok := impl.DifferenceOf(p, q)
	same(t, "12 events", results(word, ok), results(append(repeated(0, 11), 1), true))
}

func TestDifferenceOf(t *testing.T) {
	for _, c := range []struct {
		p, q string
		want []int64
	}{
		{inTurn, everything, list(1)}, {inTurn, nothing, list(0)}, {everything, nothing, list(0)}, {"0,x,x,x", nothing, list(0)}, {"x,x,x,0", nothing, list(3)}, {"0,0,0,0", "0,0,0,x", list(3)}, {"0,x,x,0", "x,0,x,0", list(0)}, {"x,0,0,x", "x,0,x,0", list(2)},
		// A lesser first event that differs later comes behind a greater one that differs at once.
		{"1,x,x,x/x,x,x,x", "0,x,x,0", list(3)}, {"1,0,x,x/x,x,x,x", "1,0,x,x/x,x,x,1", list(0, 3)},
		// Several shortest words, and states whose order is not that of the words.
		{"2,1,x,x/x,x,x,x/x,x,x,x", "2,1,x,x/0,x,x,x/x,x,x,0", list(0, 3)}, {"2,1,x,x/x,x,x,x/x,x,x,x", "2,1,x,x/x,0,x,x/0,x,x,0", list(0, 0)}, {"2,1,x,x/x,x,x,x/x,x,x,x", "2,1,x,x/x,0,x,x/x,x,x,x", list(1, 1)}, {"1,2,x,x/x,x,x,x/x,x,x,x", "2,1,x,x/x,x,x,0/0,0,x,x", list(0, 0)},
		{"3,2,1,x/x,x,x,0/x,x,1,x/x,x,1,x", "3,2,1,x/x,x,x,x/x,x,1,x/x,x,1,x", list(2, 3)}, {"3,2,x,x/x,x,x,0/x,x,1,x/x,x,1,x", "3,2,x,x/x,x,x,x/x,x,1,x/x,x,1,x", list(0, 2, 3)},
		{"1,1,x,x/2,2,x,x/x,x,x,x", "1,1,x,x/2,2,x,x/x,x,x,2", list(0, 0, 3)}, {"1,3,x,x/2,x,x,x/x,x,x,x/0,x,x,x", "1,3,x,x/2,x,x,x/x,x,2,x/1,x,x,x", list(0, 0, 2)}, {"1,3,x,x/2,x,x,x/x,x,x,x/0,x,x,x", "1,3,x,x/2,x,x,x/x,x,x,x/1,x,x,x", list(1, 0, 1)},
	} {
		p, q := policyOf(c.p), policyOf(c.q)
		for _, pair := range [][2]impl.Policy{{p, q}, {q, p}} {
			word, ok := impl.DifferenceOf(pair[0], pair[1])
			same(t, c.p+" and "+c.q, results(word, ok), results(c.want, true))
		}
	}
	for _, c := range [][2]string{{everything, everything}, {nothing, nothing}, {inTurn, "1,x,x,x/x,2,x,x/3,x,x,x/x,0,x,x"}, {"0,x,x,x/1,1,1,1", "0,x,x,x"}, {nothing, "x,x,x,x/0,0,0,0"}, {"1,0,x,x/0,1,x,x", "0,0,x,x"}} {
		for _, pair := range [][2]string{c, {c[1], c[0]}} {
			word, ok := impl.DifferenceOf(policyOf(pair[0]), policyOf(pair[1]))
			fails(t, "the same words", word, ok)
		}
	}
}

// differenceAgain returns the least difference by another way: it takes the least event behind which the policies still differ as soon as they can.
func differenceAgain(p, q impl.Policy) ([]int64, bool) {
	const limit = 60
	l := languages{}
	one, two := l.levels(p.Next, limit), l.levels(q.Next, limit)
	length := slices.IndexFunc(counted(limit+1), func(length int64) bool { return one[length][0] != two[length][0] })
	if length < 0 {
		return nil, false
	}
	var word []int64
	left, right := int64(0), int64(0)
	for ; length > 0; length-- {
		for event := range int64(4) {
			to, too := p.Next[left][event], q.Next[right][event]
			if (to < 0) != (too < 0) || to >= 0 && one[length-1][to] != two[length-1][too] {
				word = append(word, event)
				left, right = to, too
				break
			}
		}
	}
	return word, true
}

// isStricterAgain follows the words that a policy allows until one is forbidden by another policy.
func isStricterAgain(p, q impl.Policy) bool {
	seen := map[[2]int64]bool{}
	var follow func(one, two int64) bool
	follow = func(one, two int64) bool {
		if one < 0 || seen[[2]int64{one, two}] {
			return true
		}
		if two < 0 {
			return false
		}
		seen[[2]int64{one, two}] = true
		for event := range 4 {
			if !follow(p.Next[one][event], q.Next[two][event]) {
				return false
			}
		}
		return true
	}
	return follow(0, 0)
}

func TestDifferencesAgain(t *testing.T) {
	counts := map[string]int{}
	for _, pair := range append(pairsOfPolicies(800), [2]impl.Policy{ring(12), behindTail(ring(11))}) {
		p, q := pair[0], pair[1]
		want, exists := differenceAgain(p, q)
		got, ok := impl.DifferenceOf(p, q)
		same(t, shown(pair), results(got, ok), results(want, exists))
		stricter, wider := impl.IsStricter(p, q), impl.IsStricter(q, p)
		same(t, shown(pair), results(stricter, wider), results(isStricterAgain(p, q), isStricterAgain(q, p)))
		same(t, "stricter and wider: "+shown(pair), stricter && wider, !ok)
		one, _ := impl.MinimalPolicy(p)
		two, _ := impl.MinimalPolicy(q)
		same(t, "the same minimal policies: "+shown(pair), slices.EqualFunc(one.Next, two.Next, slices.Equal), !ok)
		if ok {
			same(t, "allowed by one", isAllowed(p, got) != isAllowed(q, got), true)
		}
		switch {
		case !ok:
			counts["no difference"]++
		case len(got) > 4:
			counts["long differences"]++
		case len(got) > 1:
			counts["differences"]++
		}
		switch {
		case stricter && !wider:
			counts["stricter"]++
		case ok && !stricter && !wider:
			counts["neither"]++
		}
	}
	for _, what := range []string{"no difference", "long differences", "differences", "stricter", "neither"} {
		if counts[what] < 100 {
			t.Errorf("%s: only %d", what, counts[what])
		}
	}
}

// wordsOf returns all words with a number of events, in order.
func wordsOf(length int) [][]int64 {
	words := [][]int64{nil}
	for range length {
		var longer [][]int64
		for _, word := range words {
			for event := range int64(4) {
				longer = append(longer, append(slices.Clone(word), event))
			}
		}
		words = longer
	}
	return words
}

// TestNoLesserDifference tries all words that are shorter than a difference or of its length and lesser.
func TestNoLesserDifference(t *testing.T) {
	var words [][]int64
	for length := range 6 {
		words = append(words, wordsOf(length)...)
	}
	found, none := 0, 0
	for _, pair := range pairsOfPolicies(120) {
		got, ok := impl.DifferenceOf(pair[0], pair[1])
		least := slices.IndexFunc(words, func(word []int64) bool { return isAllowed(pair[0], word) != isAllowed(pair[1], word) })
		if least >= 0 {
			same(t, shown(pair), results(got, ok), results(words[least], true))
			found++
		} else {
			same(t, shown(pair), !ok || len(got) > 5, true)
			none++
		}
	}
	if found < 200 || none < 100 {
		t.Errorf("%d differences of at most 5 events, and %d pairs without", found, none)
	}
}
