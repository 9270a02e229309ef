package tests

import (
	"math"
	"slices"
	"testing"

	"loop.example/g01105/impl"
)

func TestValidPolicy(t *testing.T) {
	for _, p := range slices.Concat(limitPolicies(), manyPolicies(200)) {
		same(t, shown(p), impl.ValidPolicy(p), true)
	}
	for _, p := range badPolicies() {
		same(t, shown(p), impl.ValidPolicy(p), false)
	}
	for count := range int64(16) {
		row := list(-1, 0, max(count-1, 0), count/2)
		same(t, "rows", impl.ValidPolicy(rows(slices.Repeat([][]int64{row}, int(count))...)), count >= 1 && count <= 12)
	}
	for n := int64(-4); n < 16; n++ {
		for count := int64(1); count <= 12; count++ {
			p := rope(count)
			p.Next[count-1][3] = n
			same(t, "a state", impl.ValidPolicy(p), n >= -1 && n < count)
		}
	}
	for length := range 10 {
		same(t, "a row", impl.ValidPolicy(rows(repeated(0, 4), repeated(-1, length))), length == 4)
	}
}

// TestBadPolicies calls each function with what is no policy.
func TestBadPolicies(t *testing.T) {
	good, code := policyOf(everything), bare("halt")
	for _, bad := range badPolicies() {
		what := shown(bad)
		to, ok := impl.StepPolicy(bad, 0, 0)
		fails(t, what, to, ok)
		count, state, ok := impl.RunPolicy(bad, nil)
		fails(t, what, count, state, ok)
		set, ok := impl.ReachedStates(bad)
		fails(t, what, set, ok)
		least, ok := impl.MinimalPolicy(bad)
		fails(t, what, least, ok)
		for _, pair := range [][2]impl.Policy{{bad, good}, {good, bad}, {bad, bad}, {bad, policyOf(nothing)}, {policyOf(nothing), bad}} {
			both, ok := impl.BothPolicies(pair[0], pair[1])
			fails(t, what, both, ok)
			same(t, what, impl.IsStricter(pair[0], pair[1]), false)
			word, ok := impl.DifferenceOf(pair[0], pair[1])
			fails(t, what, word, ok)
		}
		states, ok := impl.StatesAt(bad, code)
		fails(t, what, states, ok)
		at, state, ok := impl.FirstOffence(bad, code)
		fails(t, what, at, state, ok)
		allowed, ok := impl.Allows(bad, code)
		fails(t, what, allowed, ok)
		text, ok := impl.PolicyText(bad)
		fails(t, what, text, ok)
	}
}

// TestPolicyOfTheExample has the example of chapter 10.
func TestPolicyOfTheExample(t *testing.T) {
	p, ok := impl.ReadPolicy("1,x,x,x/x,0,x,x")
	same(t, "the policy", results(p, ok), results(rows(list(1, -1, -1, -1), list(-1, 0, -1, -1)), true))
	count, state, ok := impl.RunPolicy(p, list(0, 1, 1))
	same(t, "after 0, 1, 1", results(count, state, ok), results(int64(2), int64(0), true))
}

func TestStepPolicy(t *testing.T) {
	for count := int64(1); count <= 12; count++ {
		var p impl.Policy
		for state := range count {
			p.Next = append(p.Next, list(count-1-state, state, 0, count-1))
		}
		for state := range count {
			for event := range int64(4) {
				to, ok := impl.StepPolicy(p, state, event)
				same(t, "StepPolicy", results(to, ok), results(p.Next[state][event], true))
			}
			for _, event := range []int64{-1, 4, 5, -2, math.MinInt64, math.MaxInt64} {
				to, ok := impl.StepPolicy(p, state, event)
				fails(t, "no event", to, ok)
			}
		}
		for _, state := range []int64{-1, count, count + 1, 12, -2, math.MinInt64, math.MaxInt64} {
			for event := range int64(4) {
				to, ok := impl.StepPolicy(p, state, event)
				fails(t, "no state", to, ok)
			}
		}
		for state := range count {
			for event := range int64(4) {
				q := sparedCopy(p)
				q.Next[state][event] = -1
				to, ok := impl.StepPolicy(q, state, event)
				fails(t, "a forbidden event", to, ok)
				to, ok = impl.StepPolicy(q, state, 3-event)
				same(t, "an event beside it", results(to, ok), results(p.Next[state][3-event], true))
			}
		}
	}
}

// isPolicyRun requires how many events of a word are allowed, and the state to which they lead.
func isPolicyRun(t *testing.T, p impl.Policy, word []int64, count, state int64) {
	t.Helper()
	got, last, ok := impl.RunPolicy(p, word)
	same(t, shown(p)+shown(word), results(got, last, ok), results(count, state, true))
}

func TestRunPolicy(t *testing.T) {
	p := policyOf("1,2,x,x/x,2,3,x/0,x,x,1/x,x,x,3")
	for _, c := range []struct {
		word         []int64
		count, state int64
	}{
		{nil, 0, 0}, {list(0), 1, 1}, {list(1), 1, 2}, {list(0, 1), 2, 2}, {list(0, 2, 3, 3, 3), 5, 3}, {list(1, 3, 1, 0, 1, 0), 6, 0},
		// Forbidden at the first, a middle and the last event.
		{list(2), 0, 0}, {list(3), 0, 0}, {list(2, 0, 1), 0, 0}, {list(0, 0), 1, 1}, {list(0, 0, 1), 1, 1}, {list(1, 3, 3, 1, 0), 2, 1}, {list(1, 3, 1, 1), 3, 2}, {list(0, 2, 3, 2), 3, 3}, {list(1, 0, 3), 2, 0},
		// What is forbidden has no other effect, also not again.
		{list(0, 3, 1), 1, 1}, {list(0, 3, 3, 3), 1, 1}, {list(2, 2, 2, 2), 0, 0},
	} {
		isPolicyRun(t, p, c.word, c.count, c.state)
	}
	for length := range 41 {
		word := repeated(0, length)
		isPolicyRun(t, policyOf(everything), word, int64(length), 0)
		isPolicyRun(t, policyOf(nothing), word, 0, 0)
		isPolicyRun(t, ring(12), word, int64(length), int64(length%12))
		isPolicyRun(t, rope(12), word, int64(min(length, 11)), int64(min(length, 11)))
	}
	// The last of 40 events is forbidden.
	word := repeated(0, 40)
	word[39] = 1
	isPolicyRun(t, ring(12), word, 39, 3)
	isPolicyRun(t, ring(5), word, 40, 0)
	for _, bad := range badWords() {
		for _, p := range []impl.Policy{p, ring(12), policyOf(everything), policyOf(nothing)} {
			count, state, ok := impl.RunPolicy(p, bad)
			fails(t, shown(bad), count, state, ok)
		}
	}
}

// TestRunsOfPoliciesAreSteps compares words with their events one by one.
func TestRunsOfPoliciesAreSteps(t *testing.T) {
	stopped, through := 0, 0
	for i, p := range manyPolicies(900) {
		word := make([]int64, (i*7)%41)
		for k := range word {
			word[k] = int64((i*31 + k*k*(i%5+1) + k/3) % (1 + i%4))
		}
		state, count := int64(0), int64(0)
		for _, event := range word {
			to, ok := impl.StepPolicy(p, state, event)
			if !ok {
				stopped++
				break
			}
			state = to
			count++
		}
		if count > 5 {
			through++
		}
		isPolicyRun(t, p, word, count, state)
	}
	if stopped < 200 || through < 200 {
		t.Errorf("%d words are forbidden, %d are allowed for long", stopped, through)
	}
}

func TestReachedStates(t *testing.T) {
	for _, c := range []struct {
		text string
		want []int64
	}{
		{everything, list(0)}, {nothing, list(0)}, {inTurn, list(0, 1)}, {"x,x,x,x/0,0,0,0", list(0)}, {"0,x,x,x/1,1,1,1", list(0)},
		// States behind one that is not reached, and circles of such states.
		{"x,x,x,2/3,x,x,x/x,x,x,x/3,x,x,x", list(0, 2)}, {"0,x,x,x/2,x,x,x/3,x,x,x/1,0,x,x", list(0)}, {"4,x,x,x/2,x,x,x/1,0,x,4/3,x,x,x/4,0,x,x", list(0, 4)}, {"2,x,x,x/3,x,x,x/x,x,2,x/1,2,x,x", list(0, 2)},
		// Over each event, to lesser and to greater states, and through all of them.
		{"4,3,2,1/x,x,x,x/x,x,x,x/x,x,x,x/x,x,x,x", list(0, 1, 2, 3, 4)}, {"x,x,x,3/x,0,x,x/1,x,x,x/x,x,2,x", list(0, 1, 2, 3)}, {"x,x,x,3/x,0,x,x/x,x,x,x/x,x,1,x", list(0, 1, 3)},
	} {
		got, ok := impl.ReachedStates(policyOf(c.text))
		same(t, c.text, results(got, ok), results(c.want, true))
	}
	for count := int64(1); count <= 12; count++ {
		got, ok := impl.ReachedStates(rope(count))
		same(t, "a rope", results(got, ok), results(counted(count), true))
		// The last state leads through all others, but nothing leads to it.
		p := rope(count)
		p.Next[0], p.Next[count-1] = p.Next[count-1], p.Next[0]
		got, ok = impl.ReachedStates(p)
		same(t, "no way", results(got, ok), results(list(0), true))
	}
}

// isAllowed reports whether a policy allows all events of a list, of any length.
func isAllowed(p impl.Policy, events []int64) bool {
	_, ok := stateBehind(p, 0, events)
	return ok
}

// stateBehind returns the state to which events lead from a state on, if they are allowed.
func stateBehind(p impl.Policy, state int64, events []int64) (int64, bool) {
	for _, event := range events {
		if state = p.Next[state][event]; state < 0 {
			return 0, false
		}
	}
	return state, true
}

// reachedAgain marks the states to which words lead.
func reachedAgain(p impl.Policy) []bool {
	reached := make([]bool, len(p.Next))
	var visit func(state int64)
	visit = func(state int64) {
		if state >= 0 && !reached[state] {
			reached[state] = true
			for _, to := range p.Next[state] {
				visit(to)
			}
		}
	}
	visit(0)
	return reached
}

func TestReachedStatesAgain(t *testing.T) {
	all, some := 0, 0
	for _, p := range manyPolicies(1500) {
		var want []int64
		for state, reached := range reachedAgain(p) {
			if reached {
				want = append(want, int64(state))
			}
		}
		got, ok := impl.ReachedStates(p)
		same(t, shown(p), results(got, ok), results(want, true))
		if len(want) == len(p.Next) {
			all++
		} else if len(want) > 2 {
			some++
		}
	}
	if all < 200 || some < 200 {
		t.Errorf("all states of %d policies are reached, and some of %d", all, some)
	}
}
