package tests

import (
	"slices"
	"testing"

	"loop.example/g01105/impl"
)

// becomesMinimal requires the text of the minimal policy of a policy.
func becomesMinimal(t *testing.T, text, want string) {
	t.Helper()
	least, ok := impl.MinimalPolicy(policyOf(text))
	same(t, text, results(least, ok), results(policyOf(want), true))
}

func TestMinimalPolicy(t *testing.T) {
	for _, c := range [][2]string{
		{everything, everything}, {nothing, nothing}, {inTurn, inTurn}, {"1,x,x,x/x,2,x,x/3,x,x,x/x,0,x,x", inTurn},
		// All states are the same, or all that are reached.
		{"0,x,x,x/x,1,x,x", "0,x,x,x"}, {"1,2,x,x/2,0,x,x/0,1,x,x", "0,0,x,x"}, {"2,1,0,2/0,0,0,0/1,2,1,2", everything}, {"1,2,x,x/2,2,x,x/2,1,x,x/x,x,x,x", "0,0,x,x"},
		// Not the same: one more event is allowed, or an event leads elsewhere.
		{"1,x,x,x/1,1,x,x", "1,x,x,x/1,1,x,x"}, {"1,2,x,x/x,x,x,x/x,x,x,0", "1,2,x,x/x,x,x,x/x,x,x,0"}, {"0,1,x,x/1,0,x,x", "0,0,x,x"}, {"0,1,x,x/0,x,x,x", "0,1,x,x/0,x,x,x"},
		// A state that allows no event is not the same as what is forbidden.
		{"1,1,x,x/x,x,x,x", "1,1,x,x/x,x,x,x"}, {"1,2,3,x/x,x,x,x/x,x,x,x/x,x,x,x", "1,1,1,x/x,x,x,x"}, {"1,x,x,x/2,x,x,x/x,x,x,x", "1,x,x,x/2,x,x,x/x,x,x,x"},
		// States that nothing reaches, also such that are the same as others.
		{"0,x,x,x/1,x,x,x", "0,x,x,x"}, {"2,x,x,x/2,0,x,x/x,0,x,x", inTurn}, {"3,x,x,x/0,x,x,x/1,2,x,x/x,0,x,x", inTurn}, {"x,x,x,x/0,1,2,3/1,x,x,x/2,2,2,2", nothing}, {"0,0,0,0/x,x,x,x", everything},
		// States in another order.
		{"2,1,x,x/x,x,x,x/x,2,x,x", "1,2,x,x/x,1,x,x/x,x,x,x"}, {"2,x,x,x/x,x,0,x/x,1,x,x", "1,x,x,x/x,2,x,x/x,x,0,x"}, {"3,2,x,x/x,x,0,x/1,x,x,x/x,3,x,x", "1,2,x,x/x,1,x,x/3,x,x,x/x,x,0,x"}, {"x,3,x,2/x,1,x,x/1,x,x,x/2,1,x,0", "x,1,x,2/2,3,x,0/3,x,x,x/x,3,x,x"},
		// All states behind one come before those behind the next one, and both before those behind them.
		{"1,3,x,x/2,x,x,x/x,x,x,2/x,1,x,x", "1,2,x,x/3,x,x,x/x,1,x,x/x,x,x,3"}, {"5,x,x,4/x,x,x,x/0,1,x,x/x,x,2,x/3,x,x,3/2,x,x,x", "1,x,x,2/3,x,x,x/4,x,x,4/0,5,x,x/x,x,3,x/x,x,x,x"},
		// Put together and in another order.
		{"4,3,x,x/x,x,1,x/x,x,2,x/2,x,x,x/1,x,x,x", "1,1,x,x/2,x,x,x/x,x,2,x"}, {"x,3,1,x/2,x,x,x/x,x,x,1/4,4,x,x/x,x,x,3", "x,1,2,x/3,3,x,x/4,x,x,x/x,x,x,1/x,x,x,2"},
	} {
		becomesMinimal(t, c[0], c[1])
		becomesMinimal(t, c[1], c[1])
	}
}

// TestStatesThatDifferFarAway has states that are the same or not only because of what follows after many events.
func TestStatesThatDifferFarAway(t *testing.T) {
	for count := int64(1); count <= 12; count++ {
		for _, p := range []impl.Policy{rope(count), ring(count)} {
			least, ok := impl.MinimalPolicy(p)
			same(t, "all different", results(least, ok), results(p, true))
		}
		p := ring(count)
		p.Next[count-1][1] = -1
		least, ok := impl.MinimalPolicy(p)
		same(t, "all the same", results(least, ok), results(policyOf("0,x,x,x"), true))
	}
	becomesMinimal(t, "1,6,x,x/2,x,x,x/3,x,x,x/4,x,x,x/5,x,x,x/x,x,x,0/7,x,x,x/8,x,x,x/9,x,x,x/10,x,x,x/x,x,x,0", "1,1,x,x/2,x,x,x/3,x,x,x/4,x,x,x/5,x,x,x/x,x,x,0")
	becomesMinimal(t, "1,6,x,x/2,x,x,x/3,x,x,x/4,x,x,x/5,x,x,x/x,x,x,0/7,x,x,x/8,x,x,x/9,x,x,x/10,x,x,x/x,x,0,x", "1,2,x,x/3,x,x,x/4,x,x,x/5,x,x,x/6,x,x,x/7,x,x,x/8,x,x,x/9,x,x,x/10,x,x,x/x,x,x,0/x,x,0,x")
	// Rings of 12 states whose marks come again after 1 to 6 steps.
	for _, part := range []int64{1, 2, 3, 4, 6} {
		p := ring(12)
		for state := part - 1; state < 12; state += part {
			p.Next[state][1] = 0
		}
		least, ok := impl.MinimalPolicy(p)
		same(t, "a ring", results(least, ok), results(ring(part), true))
	}
}

// languages tells what states allow by another way: it gives a number to what is allowed behind each event.
type languages map[[4]int]int

// levels returns for each length up to a limit and each state a number that states of any policies share if they allow the same words of at most this length.
func (l languages) levels(next [][]int64, limit int) [][]int {
	levels := [][]int{make([]int, len(next))}
	for length := range limit {
		level := make([]int, len(next))
		for state, row := range next {
			behind := [4]int{-1, -1, -1, -1}
			for event, to := range row {
				if to >= 0 {
					behind[event] = levels[length][to]
				}
			}
			if l[behind] == 0 {
				l[behind] = len(l) + 1
			}
			level[state] = l[behind]
		}
		levels = append(levels, level)
	}
	return levels
}

// last returns the numbers of what states allow for words that are longer than needed.
func (l languages) last(next [][]int64) []int {
	return l.levels(next, 160)[160]
}

// productAgain returns rows for all pairs of states, the pair of the states one and two with the number 12 * one + two, and those of what is missing.
func productAgain(p, q impl.Policy) [][]int64 {
	next := make([][]int64, 144)
	for pair := range next {
		next[pair] = repeated(-1, 4)
		one, two := pair/12, pair%12
		if one >= len(p.Next) || two >= len(q.Next) {
			continue
		}
		for event := range 4 {
			if left, right := p.Next[one][event], q.Next[two][event]; left >= 0 && right >= 0 {
				next[pair][event] = 12*left + right
			}
		}
	}
	return next
}

// differentIn returns how many different numbers those states have that words lead to.
func differentIn(numbers []int, next [][]int64) int {
	different := map[int]bool{}
	for state, reached := range reachedAgain(impl.Policy{Next: next}) {
		if reached {
			different[numbers[state]] = true
		}
	}
	return len(different)
}

// isMinimal requires that a policy has no two states that allow the same words, none that is not reached, and numbers in the order in which they are reached.
func isMinimal(t *testing.T, p impl.Policy) {
	t.Helper()
	same(t, "valid", impl.ValidPolicy(p), true)
	numbers := languages{}.last(p.Next)
	same(t, "different states: "+shown(p), differentIn(numbers, p.Next), len(p.Next))
	known := int64(1)
	for state, row := range p.Next {
		same(t, "reached before: "+shown(p), int64(state) < known, true)
		for _, to := range row {
			same(t, "the next number: "+shown(p), to <= known, true)
			known = max(known, to+1)
		}
	}
	again, ok := impl.MinimalPolicy(p)
	same(t, "minimal of minimal", results(again, ok), results(p, true))
}

func TestMinimalPolicyAgain(t *testing.T) {
	fewer, far := 0, 0
	for _, p := range slices.Concat(manyPolicies(1500), limitPolicies()) {
		least, ok := impl.MinimalPolicy(p)
		same(t, "success", ok, true)
		isMinimal(t, least)
		l := languages{}
		same(t, "the same words: "+shown(p), l.last(least.Next)[0], l.last(p.Next)[0])
		same(t, "the fewest states: "+shown(p), len(least.Next), differentIn(l.last(p.Next), p.Next))
		if len(least.Next) > 2 && differentIn(l.last(p.Next), p.Next) < len(p.Next) {
			fewer++
		}
		if levels := l.levels(least.Next, 5); differentIn(levels[5], least.Next) < len(least.Next) {
			far++
		}
	}
	if fewer < 200 || far < 50 {
		t.Errorf("%d policies have fewer states, and %d have states that differ only behind more than 5 events", fewer, far)
	}
}

// TestMinimalPoliciesRunWords runs words in policies and in their minimal ones.
func TestMinimalPoliciesRunWords(t *testing.T) {
	for i, p := range manyPolicies(400) {
		least, _ := impl.MinimalPolicy(p)
		for k := range 30 {
			word := make([]int64, (i+k*k)%41)
			for at := range word {
				word[at] = int64((i*k + at*at*k + at/2 + i) % (1 + (i+k)%4))
			}
			want, _, _ := impl.RunPolicy(p, word)
			got, _, ok := impl.RunPolicy(least, word)
			same(t, shown(p)+shown(word), results(got, ok), results(want, true))
		}
	}
}

// areBoth requires the minimal policy of what two policies both allow, in either order.
func areBoth(t *testing.T, p, q, want impl.Policy) {
	t.Helper()
	for _, pair := range [][2]impl.Policy{{p, q}, {q, p}} {
		got, ok := impl.BothPolicies(pair[0], pair[1])
		same(t, shown(pair), results(got, ok), results(want, true))
	}
}

func TestBothPolicies(t *testing.T) {
	for _, c := range [][3]string{
		{inTurn, everything, inTurn}, {inTurn, nothing, nothing}, {everything, everything, everything}, {nothing, nothing, nothing}, {everything, nothing, nothing},
		{"0,x,x,0", "x,0,x,0", "x,x,x,0"}, {"0,0,x,x", "x,x,0,0", nothing}, {inTurn, "0,x,x,x", "1,x,x,x/x,x,x,x"}, {inTurn, "1,x,x,x/0,0,x,x", inTurn}, {"1,2,x,x/x,x,x,x/0,x,x,x", "0,1,x,x/1,0,x,x", "1,2,x,x/x,x,x,x/0,x,x,x"},
		// What is reached in both in another order than in each, and put together.
		{"x,2,1,x/x,x,x,0/x,x,0,x", "x,x,2,1/x,2,x,x/1,0,x,1", "x,x,1,x/x,x,x,2/x,3,x,x/x,x,x,x"}, {"x,1,2,x/x,x,0,x/1,x,x,x", "2,1,1,x/0,x,2,x/1,x,1,0", "x,1,2,x/x,x,3,x/1,x,x,x/x,x,2,x"},
	} {
		areBoth(t, policyOf(c[0]), policyOf(c[1]), policyOf(c[2]))
	}
	for _, p := range slices.Concat(limitPolicies(), manyPolicies(100)) {
		least, _ := impl.MinimalPolicy(p)
		areBoth(t, p, p, least)
		areBoth(t, p, policyOf(everything), least)
		areBoth(t, p, policyOf(nothing), policyOf(nothing))
	}
}

// TestBothPoliciesAtTheLimit has policies whose pairs of states are as many as a policy can have, or more.
func TestBothPoliciesAtTheLimit(t *testing.T) {
	areBoth(t, ring(3), ring(4), ring(12))
	areBoth(t, ring(12), ring(4), ring(12))
	areBoth(t, ring(12), ring(12), ring(12))
	areBoth(t, rope(12), ring(11), rope(12))
	// A state in front of a ring of 12 states, which is told apart by the event 2.
	tail := behindTail(ring(4))
	tail.Next[0][2] = 0
	with2 := ring(3)
	for state := range with2.Next {
		with2.Next[state][2] = 0
	}
	for _, pair := range [][2]impl.Policy{{tail, with2}, {ring(3), ring(5)}, {ring(2), ring(7)}, {ring(11), ring(12)}, {ring(12), ring(7)}} {
		for range 2 {
			both, ok := impl.BothPolicies(pair[0], pair[1])
			fails(t, shown(pair), both, ok)
			same(t, "stricter", impl.IsStricter(pair[0], pair[1]), false)
			pair[0], pair[1] = pair[1], pair[0]
		}
	}
	// Many pairs, of which few are different.
	for _, counts := range [][2]int64{{5, 7}, {11, 12}, {12, 12}} {
		p, q := ring(counts[0]), ring(counts[1])
		for state := range p.Next {
			p.Next[state][1] = int64(state)
		}
		for state := range q.Next {
			q.Next[state] = list(int64(state), (int64(state)+1)%counts[1], -1, -1)
		}
		areBoth(t, p, q, policyOf("0,0,x,x"))
		p.Next[0][2], q.Next[0][2] = 0, 0
		both, ok := impl.BothPolicies(p, q)
		fails(t, "a pair of many", both, ok)
	}
}

func TestBothPoliciesAgain(t *testing.T) {
	few, many := 0, 0
	for _, pair := range pairsOfPolicies(250) {
		next := productAgain(pair[0], pair[1])
		l := languages{}
		numbers := l.last(next)
		count := differentIn(numbers, next)
		both, ok := impl.BothPolicies(pair[0], pair[1])
		same(t, shown(pair), ok, count <= 12)
		if !ok {
			fails(t, shown(pair), both, ok)
			many++
			continue
		}
		isMinimal(t, both)
		same(t, shown(pair), results(l.last(both.Next)[0], len(both.Next)), results(numbers[0], count))
		if count > 3 {
			few++
		}
	}
	if few < 100 || many < 50 {
		t.Errorf("%d have few states, %d too many", few, many)
	}
}
