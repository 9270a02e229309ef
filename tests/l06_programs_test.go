package tests

import (
	"math/rand/v2"
	"slices"
	"testing"

	"loop.example/g01105/impl"
)

// areProofsOf requires that ProveProgram returns the proofs of the conditions.
func areProofsOf(t *testing.T, p impl.Program, budget int64) bool {
	t.Helper()
	conditions, exist := impl.ConditionsOfProgram(p)
	proofs, ok := impl.ProveProgram(p, budget)
	all, proved := impl.ProveAll(conditions, budget)
	same(t, shown(p), ok, exist && proved)
	if !ok {
		fails(t, shown(p), proofs, ok)
		return false
	}
	same(t, shown(p), results(proofs), results(all))
	same(t, shown(p), impl.AreProved(conditions, proofs), true)
	return true
}

func TestProveProgram(t *testing.T) {
	cell := sequence(get(0, fact(7)), ifElse(alone(0, 1), assert(alone(0, 1)), skip()))
	good := []impl.Program{
		programOf(skip()), programOf(sequence(emit(1), set(2, fact(5)))), read(t, "pre b", "set a b+1", "post a-1"), programOf(cell), programOf(put(fact(0), alone(1, 1))), read(t, "pre a-1", "pre -a", "put b c", "post d"),
		read(t, "pre 2a-1", "assert a-1", "skip"), read(t, "while a", "inv a+1", "do", "set a a-1", "end"), read(t, "pre a+1", "while a", "inv a+1", "do", "set a a-1", "end", "post a+1", "post -a-1"),
	}
	for i, p := range good {
		same(t, shown(p), areProofsOf(t, p, 60), i != 7)
	}
	for _, p := range []impl.Program{
		read(t, "pre b", "set a b+1", "post a-2"), programOf(get(0, fact(8))), programOf(put(fact(-1), fact(0))), programOf(both(cell, assert(alone(0, 1)))), programOf(assert(fact(-1))), {Body: skip(), Post: []impl.Term{fact(-1)}}, {Body: skip(), Post: []impl.Term{fact(1), fact(1e6)}}, read(t, "pre a", "while a", "inv a", "do", "set a a-1", "end"),
	} {
		same(t, shown(p), areProofsOf(t, p, 60), false)
	}
	proofs, ok := impl.ProveProgram(good[2], 1)
	same(t, "proofs", results(proofs, ok), results([][]impl.Node{nodesOf("c1,1")}, true))
	proofs, ok = impl.ProveProgram(good[0], 1)
	same(t, "no conditions", results(proofs, ok), results([][]impl.Node{}, true))
	same(t, "a budget too small", areProofsOf(t, good[6], 1), false)
	same(t, "a budget just enough", areProofsOf(t, good[6], 2), true)
}

// TestProgramsWithoutProofs takes programs that are not valid, or have no conditions that exist.
func TestProgramsWithoutProofs(t *testing.T) {
	for _, p := range append(badPrograms(), longPrograms()...) {
		proofs, ok := impl.ProveProgram(p, 60)
		fails(t, "no program", proofs, ok)
	}
	p := impl.Program{Body: ways(10), Post: factsOf(fact(1), 6)}
	same(t, "60 conditions", areProofsOf(t, p, 60), true)
	p.Body = both(assert(fact(0)), p.Body)
	same(t, "61 conditions", areProofsOf(t, p, 60), false)
}

// less returns n - x.
func less(n int64, x impl.Term) impl.Term {
	return wideOf(n).plus(-1, x).narrow()
}

// guardedPart returns statements that are safe, but for a slip now and then.
func guardedPart(random *rand.Rand) []impl.Stmt {
	slip := random.Int64N(12) / 11
	index, v := tame(random), random.Int64N(4)
	access := put(index, tame(random))
	if random.IntN(2) == 0 {
		access = get(v, index)
	}
	switch random.IntN(8) {
	case 0, 1:
		return ifElse(index, ifElse(less(7+slip, index), access, skip()), skip())
	case 2:
		return ifElse(less(3, index), skip(), assert(fact(index.Const-4-slip, index.Coeffs...)))
	case 3:
		return ifElse(fact(2*index.Const-1, alone(int(v), 2).Coeffs...), assert(fact(index.Const-slip, alone(int(v), 1).Coeffs...)), emit(1))
	case 4:
		top, count := random.Int64N(8)+slip, alone(int(v), 1)
		body := both(put(count, alone(random.IntN(4), 1)), set(v, fact(1, count.Coeffs...)))
		return both(set(v, fact(0)), while(less(top, count), body, count, less(top+1, count)))
	case 5:
		return set(v, tame(random))
	case 6:
		return ifElse(tame(random), set(v, tame(random)), emit(2))
	}
	return emit(random.Int64N(4))
}

// guardedPrograms returns programs most of which are safe.
func guardedPrograms(count int) []impl.Program {
	random := rand.New(rand.NewPCG(49, 50))
	var list []impl.Program
	for range count {
		p := impl.Program{Pre: tameTerms(random, 2), Body: guardedPart(random)}
		for range random.IntN(4) {
			if next := both(guardedPart(random), p.Body); len(next) <= 30 {
				p.Body = next
			}
		}
		switch random.IntN(3) {
		case 0:
			p.Post = p.Pre
		case 1:
			x := tame(random)
			p.Body = both(p.Body, ifElse(x, skip(), assert(x)))
			p.Post = []impl.Term{fact(x.Const+random.Int64N(4)/3, x.Coeffs...)}
		}
		if len(p.Body) <= 30 {
			list = append(list, p)
		}
	}
	return list
}

// isSafe reports whether a run breaks nothing that the conditions of a program promise.
func isSafe(p impl.Program, r run) bool {
	switch r.outcome {
	case impl.OutDone:
		return allAtLeast0(p.Post, r.last.Vars)
	case impl.OutFuel, impl.OutRange:
		return true
	}
	return false
}

// smallStates are states with numbers around those of cells.
func smallStates(count int) []impl.State {
	random := rand.New(rand.NewPCG(51, 52))
	var list []impl.State
	for range count {
		s := state(random.Int64N(12)-2, random.Int64N(12)-2, random.Int64N(12)-2, random.Int64N(12)-2)
		for i := range s.Cells {
			s.Cells[i] = random.Int64N(14) - 3
		}
		list = append(list, s)
	}
	return list
}

// TestProvedProgramsAreSafe runs programs whose conditions are proved, and others, some of which break what they promise.
func TestProvedProgramsAreSafe(t *testing.T) {
	states := append(manyStates(), smallStates(30)...)
	counts := map[string]int{}
	for _, p := range slices.Concat(guardedPrograms(1500), tamePrograms(600)) {
		proved := areProofsOf(t, p, 60)
		for _, s := range states {
			if holds, _ := impl.HoldsAt(p, -1, s); !holds {
				continue
			}
			r := runOf(t, p, s, 300)
			if proved && !isSafe(p, r) {
				t.Fatalf("%s is proved, but ends with %d from %s", shown(p), r.outcome, shown(s))
			}
			switch {
			case !proved && !isSafe(p, r):
				counts["broken"]++
			case proved && r.outcome == impl.OutDone && len(p.Post) > 0:
				counts["post"]++
			case proved && r.steps > 10:
				counts["long"]++
			}
		}
		if conditions, _ := impl.ConditionsOfProgram(p); proved && len(conditions) > 2 {
			counts["proved"]++
		}
	}
	for _, what := range []string{"broken", "post", "long", "proved"} {
		if counts[what] < 300 {
			t.Errorf("%s: only %d", what, counts[what])
		}
	}
}
