package tests

import (
	"math/rand/v2"
	"slices"
	"strings"
	"testing"

	"loop.example/g01105/impl"
)

// isWatched requires the states at the entry and at the points of code, and the first offence, which is nil or a path and a state.
func isWatched(t *testing.T, p impl.Policy, a impl.Annotated, want [][]int64, offence []int64) {
	t.Helper()
	what := shown(p) + " and " + shown(a)
	states, ok := impl.StatesAt(p, a)
	same(t, "StatesAt of "+what, results(states, ok), results(want, true))
	at, state, found := impl.FirstOffence(p, a)
	if offence == nil {
		fails(t, "FirstOffence of "+what, at, state, found)
	} else {
		same(t, "FirstOffence of "+what, results(at, state, found), results(offence[0], offence[1], true))
	}
	allowed, ok := impl.Allows(p, a)
	same(t, "Allows of "+what, results(allowed, ok), results(offence == nil, true))
}

// noStates returns as many sets without a state behind that of the entry.
func noStates(count int) [][]int64 {
	return append([][]int64{{0}}, make([][]int64, count)...)
}

func TestCodeWithoutPoints(t *testing.T) {
	only := noStates(0)
	for _, c := range []struct {
		policy, code string
		offence      []int64
	}{
		{nothing, "halt", nil}, {everything, "emit 3;halt", nil}, {nothing, "emit 3;halt", list(0, 0)}, {inTurn, "emit 0;halt", nil}, {inTurn, "emit 1;halt", list(0, 0)},
		// Several events on a path, and the end of the code, which leads to no start.
		{inTurn, "emit 0;emit 1;emit 0;halt", nil}, {inTurn, "emit 0;emit 1;emit 1;halt", list(0, 0)}, {inTurn, "emit 0;emit 0;halt", list(0, 0)}, {"1,x,x,x/2,x,x,x/x,x,x,x", "emit 0;emit 0;halt", nil}, {"1,x,x,x/2,x,x,x/x,x,x,x", "emit 0;emit 0;emit 0;halt", list(0, 0)},
		// Several paths, the first way first.
		{inTurn, "load 0;test 4;emit 0;halt;emit 1;halt", list(1, 0)}, {inTurn, "load 0;test 4;emit 1;halt;emit 0;halt", list(0, 0)}, {inTurn, "load 0;test 4;emit 1;halt;emit 1;halt", list(0, 0)}, {inTurn, "load 0;test 4;emit 0;halt;halt", nil}, {inTurn, "load 0;test 3;emit 0;load 1;test 6;emit 1;halt", list(2, 0)}, {inTurn, "emit 0;load 0;test 4;emit 1;emit 0;halt", list(1, 0)}, {"0,1,x,x/x,1,x,x", "load 0;test 3;emit 0;load 0;test 6;emit 1;emit 1;halt", nil},
		// What cannot be reached, and what cannot hold together.
		{nothing, "halt;emit 0;halt", nil}, {nothing, "jump 2;emit 0;halt", nil}, {nothing, "push -1;test 3;emit 0;halt", list(0, 0)}, {nothing, "push 0;test 3;halt;emit 0;halt", list(1, 0)},
	} {
		isWatched(t, policyOf(c.policy), annotated(t, c.code), only, c.offence)
	}
}

func TestCodeWithPoints(t *testing.T) {
	twice := "1,x,x,x/2,x,x,x/x,0,x,x"
	for _, c := range []struct {
		policy, code string
		states       [][]int64
		offence      []int64
	}{
		{inTurn, "point;halt", [][]int64{{0}, {0}}, nil}, {inTurn, "emit 0;point;halt", [][]int64{{0}, {1}}, nil}, {inTurn, "point;emit 0;point;emit 1;point;halt", [][]int64{{0}, {0}, {1}, {0}}, nil}, {nothing, "point;jump 0", [][]int64{{0}, {0}}, nil},
		// Points on circles.
		{inTurn, "point;load 0;test 5;emit 0;emit 1;jump 0;halt", [][]int64{{0}, {0}}, nil}, {inTurn, "point;emit 0;load 0;test 5;emit 1;jump 0;halt", [][]int64{{0}, {0}}, nil}, {inTurn, "point;emit 0;load 0;test 5;emit 1;jump 0;emit 0;halt", [][]int64{{0}, {0}}, list(2, 0)}, {inTurn, "point;load 0;test 4;emit 0;jump 0;halt", [][]int64{{0}, {0, 1}}, list(1, 1)}, {everything, "point;load 0;test 4;emit 0;jump 0;halt", [][]int64{{0}, {0}}, nil}, {inTurn, "emit 0;point;load 0;test 6;emit 1;emit 0;jump 1;emit 1;halt", [][]int64{{0}, {1}}, nil}, {nothing, "point;emit 0;jump 0", [][]int64{{0}, {0}}, list(1, 0)},
		{"1,x,x,x/2,x,x,x/3,x,x,x/0,x,x,x", "point;emit 0;emit 0;jump 0", [][]int64{{0}, {0, 2}}, nil}, {"1,x,x,x/2,x,x,x/3,x,x,x/0,x,x,x", "point;emit 0;emit 0;emit 0;jump 0", [][]int64{{0}, {0, 1, 2, 3}}, nil}, {"2,x,x,x/0,x,x,x/3,x,x,x/1,x,x,x", "emit 0;point;emit 0;emit 0;jump 1", [][]int64{{0}, {1, 2}}, nil},
		// States go from point to point, forward and back again.
		{twice, "point;emit 0;point;emit 0;point;emit 1;jump 0", [][]int64{{0}, {0}, {1}, {2}}, nil}, {"1,x,x,x/0,x,x,x", "point;emit 0;point;emit 0;point;emit 0;jump 0", [][]int64{{0}, {0, 1}, {0, 1}, {0, 1}}, nil}, {twice, "point;load 0;test 4;emit 0;jump 0;point;emit 1;halt", [][]int64{{0}, {0, 1, 2}, {0, 1, 2}}, list(1, 2)}, {"0,1,x,x/x,1,x,x", "point;load 0;test 4;emit 0;jump 0;point;load 1;test 8;emit 1;jump 4;halt", [][]int64{{0}, {0}, {0, 1}}, nil},
		// A forbidden event leads nowhere, also where what follows it would be allowed.
		{inTurn, "emit 1;point;emit 0;halt", [][]int64{{0}, nil}, list(0, 0)}, {inTurn, "emit 1;emit 0;point;emit 1;halt", [][]int64{{0}, nil}, list(0, 0)}, {inTurn, "emit 0;emit 0;point;emit 3;halt", [][]int64{{0}, nil}, list(0, 0)}, {inTurn, "load 0;test 4;emit 0;jump 5;emit 1;point;emit 1;halt", [][]int64{{0}, {1}}, list(1, 0)},
		// Points that no path reaches, with paths of their own.
		{nothing, "halt;point;emit 0;halt", noStates(1), nil}, {nothing, "jump 2;point;emit 0;halt", noStates(1), nil}, {nothing, "halt;point;emit 0;point;emit 1;jump 1", noStates(2), nil}, {inTurn, "jump 2;point;emit 1;point;emit 0;halt", [][]int64{{0}, nil, {0}}, nil}, {inTurn, "jump 2;point;emit 1;point;emit 1;halt", [][]int64{{0}, nil, {0}}, list(2, 0)}, {nothing, "halt;point;jump 1", noStates(1), nil},
		// Several offences, of which the first path counts before the least state.
		{"1,2,x,x/x,1,0,x/0,x,2,x", "load 0;test 4;emit 0;jump 5;emit 1;point;load 1;test 9;emit 0;halt;emit 2;halt", [][]int64{{0}, {1, 2}}, list(2, 1)}, {"1,2,x,x/0,x,1,x/x,1,2,x", "load 0;test 4;emit 0;jump 5;emit 1;point;load 1;test 9;emit 0;halt;emit 1;halt", [][]int64{{0}, {1, 2}}, list(2, 2)}, {"1,2,x,x/0,0,1,x/0,x,2,x", "load 0;test 4;emit 0;jump 5;emit 1;point;load 1;test 9;emit 0;halt;emit 1;halt", [][]int64{{0}, {1, 2}}, list(3, 2)}, {"1,2,x,x/x,x,x,x/x,x,x,x", "load 0;test 4;emit 0;jump 5;emit 1;point;load 1;test 9;emit 0;halt;emit 1;halt", [][]int64{{0}, {1, 2}}, list(2, 1)},
		{"2,1,x,x/0,x,x,x/x,0,x,x", "load 0;test 4;emit 1;jump 5;emit 0;point;load 1;test 9;emit 1;halt;emit 0;halt", [][]int64{{0}, {1, 2}}, list(2, 1)}, {"2,x,x,x/x,x,x,x/x,x,x,x", "point;emit 0;jump 0", [][]int64{{0}, {0, 2}}, list(1, 2)},
		// The entry stays in state 0, although the last point is behind all its states.
		{"1,x,x,x/2,x,x,x/3,x,x,x/x,x,x,x", "emit 0;emit 0;point;emit 0;halt", [][]int64{{0}, {2}}, nil},
	} {
		isWatched(t, policyOf(c.policy), annotated(t, c.code), c.states, c.offence)
	}
}

// TestManyStatesAtPoints has as many states and points as there can be, and states that are found in another order.
func TestManyStatesAtPoints(t *testing.T) {
	p := rows()
	for state := range int64(12) {
		p.Next = append(p.Next, list((state+7)%12, -1, -1, -1))
	}
	loop := annotated(t, "point;load 0;test 4;emit 0;jump 0;halt")
	isWatched(t, p, loop, [][]int64{{0}, counted(12)}, nil)
	p.Next[5][0] = -1
	// The states 0, 7, 2, 9, 4, 11, 6, 1, 8, 3, 10 and 5, in this order.
	isWatched(t, p, loop, [][]int64{{0}, counted(12)}, list(1, 5))
	p.Next[11][0] = -1
	isWatched(t, p, loop, [][]int64{{0}, {0, 2, 4, 7, 9, 11}}, list(1, 11))
	p.Next[0][0] = -1
	isWatched(t, p, loop, [][]int64{{0}, {0}}, list(1, 0))
	eight := annotated(t, strings.Repeat("point;emit 0;", 8)+"jump 0")
	isWatched(t, ring(12), eight, [][]int64{{0}, {0, 4, 8}, {1, 5, 9}, {2, 6, 10}, {3, 7, 11}, {0, 4, 8}, {1, 5, 9}, {2, 6, 10}, {3, 7, 11}}, nil)
	isWatched(t, rope(12), eight, [][]int64{{0}, {0, 8}, {1, 9}, {2, 10}, {3, 11}, {4}, {5}, {6}, {7}}, list(4, 11))
}

// TestLongPaths has paths with more events than words have, which are examined to the end.
func TestLongPaths(t *testing.T) {
	for _, count := range []int{39, 40, 41, 78, 79} {
		a := impl.Annotated{Code: append(alike(impl.Instr{Op: impl.OpEmit}, count), impl.Instr{Op: impl.OpHalt})}
		isWatched(t, policyOf("0,x,x,x"), a, noStates(0), nil)
		isWatched(t, ring(12), a, noStates(0), nil)
		isWatched(t, rope(12), a, noStates(0), list(0, 0))
		for _, k := range []int{0, 1, 39, 40, 41, count - 1} {
			if k < count {
				other := sparedCopy(a)
				other.Code[k].Arg = 3
				isWatched(t, policyOf("0,x,x,x"), other, noStates(0), list(0, 0))
			}
		}
		a.Code[count-1] = impl.Instr{Op: impl.OpJump, Arg: int64(count)}
		a.Points = pointsAt(int64(count))
		isWatched(t, ring(12), a, [][]int64{{0}, {int64(count-1) % 12}}, nil)
	}
}

// TestCodeWithoutPaths has code for which PathsOfCode fails, and code like it, also such that has no conditions.
func TestCodeWithoutPaths(t *testing.T) {
	list := []impl.Annotated{
		bare("jump 0"), bare("halt;jump 1"), bare("emit 1"), bare("add;halt"), bare("jump 79"), bare("push 1;jump 0"), bare("push 1;store 0;halt", 1), bare("push 1;halt", 1), bare("push 1000000;push 1;add;store 0;halt"), halting(exactWays(0, 201)),
		annotated(t, strings.Repeat("push 0;get;store 0;", 7)+"halt"), annotated(t, strings.Repeat("load 0;check;", 13)+"halt"),
	}
	for _, a := range append(list, badAnnotated()...) {
		if _, ok := impl.PathsOfCode(a); ok {
			t.Fatalf("paths of %s", shown(a))
		}
		for _, text := range []string{everything, nothing, inTurn} {
			p := policyOf(text)
			states, ok := impl.StatesAt(p, a)
			fails(t, shown(a), states, ok)
			at, state, ok := impl.FirstOffence(p, a)
			fails(t, shown(a), at, state, ok)
			allowed, ok := impl.Allows(p, a)
			fails(t, shown(a), allowed, ok)
		}
	}
	isWatched(t, policyOf(nothing), halting(exactWays(0, 200)), noStates(0), nil)
	// Code with paths can have too many conditions.
	full := halting(append(exactWays(0, 200), instrs("emit 1")...))
	full.Post = factsOf(alone(0, 1), 1)
	conditions, ok := impl.ConditionsOfCode(full)
	fails(t, "200 conditions", conditions, ok)
	isWatched(t, policyOf("x,0,x,x"), full, noStates(0), nil)
	isWatched(t, policyOf(inTurn), full, noStates(0), []int64{0, 0})
}

// statesAgain follows instructions with states of a policy by another way, without paths. It returns the states at the entry and at the points, and whether nothing is forbidden.
func statesAgain(p impl.Policy, a impl.Annotated) ([][]int64, bool) {
	type visit struct{ place, state int64 }
	seen := map[visit]bool{}
	waiting := []visit{{0, 0}}
	allowed := true
	for len(waiting) > 0 {
		v := waiting[0]
		waiting = waiting[1:]
		if seen[v] {
			continue
		}
		seen[v] = true
		x, state := a.Code[v.place], v.state
		if x.Op == impl.OpEmit {
			state = p.Next[state][x.Arg]
		}
		if state < 0 {
			allowed = false
			continue
		}
		for place := range targetsAgain(x, v.place) {
			waiting = append(waiting, visit{place, state})
		}
	}
	states := [][]int64{{0}}
	for _, point := range a.Points {
		var set []int64
		for state := range int64(12) {
			if seen[visit{point.At, state}] {
				set = append(set, state)
			}
		}
		states = append(states, set)
	}
	return states, allowed
}

// offenceAgain returns the first path that is an offence from one of some states, and the least such state, or nil.
func offenceAgain(p impl.Policy, paths []impl.Path, states [][]int64) []int64 {
	for k, path := range paths {
		for state := range int64(12) {
			if !slices.Contains(states[path.From+1], state) {
				continue
			}
			if _, ok := stateBehind(p, state, path.Events); !ok {
				return list(int64(k), state)
			}
		}
	}
	return nil
}

// repaired returns a policy like another one, but it allows code that has paths: each offence makes it allow one more event in a state.
func repaired(random *rand.Rand, p impl.Policy, a impl.Annotated) impl.Policy {
	p = sparedCopy(p)
	paths, _ := impl.PathsOfCode(a)
	for {
		states, _ := statesAgain(p, a)
		offence := offenceAgain(p, paths, states)
		if offence == nil {
			return p
		}
		state := offence[1]
		for _, event := range paths[offence[0]].Events {
			if p.Next[state][event] < 0 {
				p.Next[state][event] = random.Int64N(int64(len(p.Next)))
				break
			}
			state = p.Next[state][event]
		}
	}
}

// watch is code with paths, and a policy for it.
type watch struct {
	policy impl.Policy
	code   impl.Annotated
}

// manyWatches returns code from a fixed seed with policies of any kind, and with policies that allow it.
func manyWatches(count int) []watch {
	random := rand.New(rand.NewPCG(93, 94))
	policies := manyPolicies(300)
	var list []watch
	for _, a := range codesToWatch(count) {
		if _, ok := impl.PathsOfCode(a); !ok {
			continue
		}
		p := policies[random.IntN(len(policies))]
		q := randomPolicy(random, 1+random.Int64N(12), 2+random.IntN(4))
		list = append(list, watch{p, a}, watch{q, a}, watch{repaired(random, q, a), a}, watch{repaired(random, rope(12), a), a})
	}
	return list
}

func TestStatesAgain(t *testing.T) {
	counts := map[string]int{}
	for _, w := range manyWatches(400) {
		states, allowed := statesAgain(w.policy, w.code)
		paths, _ := impl.PathsOfCode(w.code)
		offence := offenceAgain(w.policy, paths, states)
		same(t, "offences", offence == nil, allowed)
		isWatched(t, w.policy, w.code, states, offence)
		most := 0
		for _, set := range states {
			most = max(most, len(set))
		}
		switch {
		case offence == nil && most > 2:
			counts["allowed with many states"]++
		case offence == nil && differentIn(languages{}.last(w.policy.Next), w.policy.Next) > 1:
			counts["allowed"]++
		case offence != nil && offence[1] > 0:
			counts["forbidden from another state"]++
		case offence != nil && offence[0] > 0:
			counts["forbidden later"]++
		}
	}
	for _, what := range []string{"allowed with many states", "allowed", "forbidden from another state", "forbidden later"} {
		if counts[what] < 100 {
			t.Errorf("%s: only %d", what, counts[what])
		}
	}
}

// TestAllowedCodeEmitsAllowedWords runs code from many states, those in which Pre does not hold included. Code that a policy allows never emits an event that is forbidden, however long it runs.
func TestAllowedCodeEmitsAllowedWords(t *testing.T) {
	counts := map[string]int{}
	states := append(manyStates(), smallStates(12)...)
	for i, w := range manyWatches(250) {
		allowed, ok := impl.Allows(w.policy, w.code)
		same(t, "success", ok, true)
		for k := range 10 {
			s := states[(i+3*k)%len(states)]
			r := codeRunOf(t, w.code.Code, s, int64(400+k))
			emitted := isAllowed(w.policy, r.events)
			if allowed && !emitted {
				t.Fatalf("%s allows %s, which emits %v from %s", shown(w.policy), shown(w.code), r.events, shown(s))
			}
			switch {
			case allowed && len(r.events) > 40:
				counts["allowed for long"]++
			case allowed && len(r.events) > 1:
				counts["allowed"]++
			case !emitted:
				counts["forbidden"]++
			}
		}
	}
	for _, what := range []string{"allowed for long", "allowed", "forbidden"} {
		if counts[what] < 500 {
			t.Errorf("%s: only %d", what, counts[what])
		}
	}
}

// TestStatesOfRuns follows runs from point to point: the state of the policy is in the set of each point.
func TestStatesOfRuns(t *testing.T) {
	states := append(manyStates(), smallStates(12)...)
	several := 0
	for i, w := range manyWatches(150) {
		sets, ok := impl.StatesAt(w.policy, w.code)
		same(t, "success", ok, true)
		for k := range 5 {
			x := leg{to: -1}
			x.last = states[(i+3*k)%len(states)]
			state := int64(0)
			for count, more := 0, true; more && count < 30; count++ {
				x = codeLegOf(w.code, x.to, x.last)
				if state, more = stateBehind(w.policy, state, x.events); !more || x.to < 0 {
					break
				}
				if set := sets[x.to+1]; !slices.Contains(set, state) {
					t.Fatalf("%s comes to the point %d in the state %d of %s", shown(w.code), x.to, state, shown(w.policy))
				} else if len(set) > 1 {
					several++
				}
			}
		}
	}
	if several < 1000 {
		t.Errorf("only %d points with several states", several)
	}
}
