package tests

import (
	"math/rand/v2"
	"slices"
	"testing"

	"loop.example/g01105/impl"
)

// codeLegOf runs code from a start until it comes to a point, halts or stops.
func codeLegOf(a impl.Annotated, start int64, s impl.State) leg {
	x := leg{to: -1, values: slices.Clone(s.Vars)}
	c := configOf(s, 0)
	if start >= 0 {
		c.At = a.Points[start].At
	}
	for started := start >= 0; started || pointAgain(a, c.At) < 0; started = false {
		next, outcome := stepOfCodeAgain(a.Code, c)
		if outcome != impl.OutDone {
			x.last = c.State
			if outcome != impl.OutHalt {
				x.outcome = outcome
			}
			return x
		}
		switch instr := a.Code[c.At]; instr.Op {
		case impl.OpEmit:
			x.events = append(x.events, instr.Arg)
		case impl.OpGet:
			x.values = append(x.values, next.Stack[len(next.Stack)-1])
		}
		c = next
	}
	x.last, x.to = c.State, pointAgain(a, c.At)
	return x
}

// factsAt returns the facts that annotated code promises at the point or end with a number.
func factsAt(a impl.Annotated, number int64) []impl.Term {
	if number < 0 {
		return a.Post
	}
	return a.Points[number].Facts
}

// givenAt returns the facts of a start.
func givenAt(a impl.Annotated, start int64) []impl.Term {
	if start < 0 {
		return a.Pre
	}
	return a.Points[start].Facts
}

// TestPathsOfCodeAreRuns runs code from all starts, in states of any kind, and compares with the paths. Where the facts of the start hold, the run is a counterexample of a condition if and only if it breaks a promise.
func TestPathsOfCodeAreRuns(t *testing.T) {
	var counts legCounts
	states := append(manyStates(), smallStates(20)...)
	for i, a := range slices.Concat(tameAnnotated(900), wildAnnotated(600), crowdedAnnotated(200)) {
		paths, ok := impl.PathsOfCode(a)
		if !ok {
			continue
		}
		for _, start := range codeStarts(a) {
			from := slices.DeleteFunc(slices.Clone(paths), func(p impl.Path) bool { return p.From != start })
			conditions, few := impl.ConditionsAt(a, start)
			known := knownOfStart{start, givenAt(a, start), from, conditions, few}
			for k := range 6 {
				s := states[(i+5*k)%len(states)]
				x := codeLegOf(a, start, s)
				same(t, "a fault of the stack", x.outcome == impl.OutStack, false)
				counts.add(t, x, known, factsAt(a, x.to))
			}
		}
	}
	counts.areMany(t)
}

// TestRunsOfAnnotatedCode follows whole runs from path to path. A run from a state in which Pre holds can only break a promise where it is a counterexample of a condition.
func TestRunsOfAnnotatedCode(t *testing.T) {
	outcomes := endOutcomes{}
	points := 0
	for i, a := range slices.Concat(tameAnnotated(1500), wildAnnotated(300)) {
		conditions, ok := impl.ConditionsOfCode(a)
		s := append(manyStates(), smallStates(20)...)[i%33]
		whole := codeRunOf(t, a.Code, s, 2000)
		if !ok || !allAtLeast0(a.Pre, s.Vars) || whole.outcome == impl.OutFuel {
			continue
		}
		x, counter := chained(s, func(start int64, s impl.State) leg {
			points++
			return codeLegOf(a, start, s)
		}, conditions)
		same(t, "the end of a run", results(x.last, x.events, x.outcome), results(whole.last, whole.events, whole.outcome))
		if x.isBroken(a.Post) && !counter {
			t.Errorf("no condition is broken by the run of %s from %s", shown(a), shown(s))
		}
		outcomes[whole.outcome]++
	}
	outcomes.areMany(t)
	if points < 500 {
		t.Errorf("only %d legs", points)
	}
}

// compiledAgain returns the annotated code of a program. It need not be valid.
func compiledAgain(p impl.Program) impl.Annotated {
	a := impl.Annotated{Pre: p.Pre, Post: p.Post}
	add := func(op, arg int64) int {
		a.Code = append(a.Code, impl.Instr{Op: op, Arg: arg})
		return len(a.Code) - 1
	}
	sum := func(term impl.Term) { a.Code = append(a.Code, termCode(term)...) }
	leadHere := func(k int) { a.Code[k].Arg = int64(len(a.Code)) }
	var statement func(body []impl.Stmt)
	statement = func(body []impl.Stmt) {
		e, behind := body[0], behindOf(body)
		switch e.Kind {
		case impl.StmtSeq:
			statement(behind[0])
			statement(behind[1])
		case impl.StmtSet:
			sum(e.Sum)
			add(impl.OpStore, e.Var)
		case impl.StmtGet:
			sum(e.Index)
			add(impl.OpGet, 0)
			add(impl.OpStore, e.Var)
		case impl.StmtPut:
			sum(e.Index)
			sum(e.Sum)
			add(impl.OpPut, 0)
		case impl.StmtEmit:
			add(impl.OpEmit, e.Event)
		case impl.StmtAssert:
			sum(e.Sum)
			add(impl.OpCheck, 0)
		case impl.StmtIf:
			sum(e.Sum)
			test := add(impl.OpTest, 0)
			statement(behind[0])
			jump := add(impl.OpJump, 0)
			leadHere(test)
			statement(behind[1])
			leadHere(jump)
		case impl.StmtWhile:
			begin := int64(len(a.Code))
			a.Points = append(a.Points, impl.Point{At: begin, Facts: e.Facts})
			sum(e.Sum)
			test := add(impl.OpTest, 0)
			statement(behind[0])
			add(impl.OpJump, begin)
			leadHere(test)
		}
	}
	statement(p.Body)
	add(impl.OpHalt, 0)
	return a
}

// TestPathsOfCompiledPrograms compares the paths and conditions of programs with those of their code.
func TestPathsOfCompiledPrograms(t *testing.T) {
	compared, points := 0, 0
	for _, p := range slices.Concat(guardedPrograms(400), tamePrograms(900), manyPrograms(300), crowdedPrograms(300)) {
		a := compiledAgain(p)
		wantPaths, one := impl.PathsOfProgram(p)
		paths, two := impl.PathsOfCode(a)
		if one && two {
			same(t, shown(p), results(paths), results(wantPaths))
			compared++
			points += len(a.Points)
		}
		want, one := impl.ConditionsOfProgram(p)
		conditions, two := impl.ConditionsOfCode(a)
		if one && two {
			same(t, shown(p), results(conditions), results(want))
		}
	}
	if compared < 1000 || points < 500 {
		t.Errorf("%d programs are compared, with %d points", compared, points)
	}
}

// isSafeCode reports whether a run of code breaks nothing that its conditions promise.
func isSafeCode(a impl.Annotated, r codeRun) bool {
	switch r.outcome {
	case impl.OutDone:
		return allAtLeast0(a.Post, r.last.Vars)
	case impl.OutFuel, impl.OutRange:
		return true
	}
	return false
}

// slipped returns annotated code of programs, some of which has another number somewhere.
func slipped(random *rand.Rand, programs []impl.Program) []impl.Annotated {
	var list []impl.Annotated
	for _, p := range programs {
		a := compiledAgain(p)
		if k := random.IntN(len(a.Code)); random.IntN(3) == 0 && a.Code[k].Op == impl.OpPush {
			a.Code[k].Arg += random.Int64N(5) - 2
		}
		if impl.ValidAnnotated(a) {
			list = append(list, a)
		}
	}
	return list
}

// TestProvedCodeIsSafe runs code whose conditions are proved, and other code, some of which breaks what it promises.
func TestProvedCodeIsSafe(t *testing.T) {
	counts := map[string]int{}
	states := append(manyStates(), smallStates(25)...)
	for _, a := range slices.Concat(slipped(rand.New(rand.NewPCG(73, 74)), guardedPrograms(900)), tameAnnotated(900)) {
		conditions, ok := impl.ConditionsOfCode(a)
		_, proved := impl.ProveAll(conditions, 60)
		proved = proved && ok
		for _, s := range states {
			if !allAtLeast0(a.Pre, s.Vars) {
				continue
			}
			r := codeRunOf(t, a.Code, s, 600)
			if proved && !isSafeCode(a, r) {
				t.Fatalf("%s is proved, but ends with %d from %s", shown(a), r.outcome, shown(s))
			}
			switch {
			case ok && !proved && !isSafeCode(a, r):
				counts["broken"]++
			case proved && r.outcome == impl.OutDone && len(a.Post) > 0:
				counts["post"]++
			case proved && len(a.Points) > 0 && r.outcome == impl.OutDone:
				counts["points"]++
			}
		}
		if proved && len(conditions) > 2 {
			counts["proved"]++
		}
	}
	for _, what := range []string{"broken", "post", "points", "proved"} {
		if counts[what] < 200 {
			t.Errorf("%s: only %d", what, counts[what])
		}
	}
}

// holdsNear reports whether no condition has a counterexample near 0. Those with too many symbols are not searched.
func holdsNear(conditions []impl.Sequent, reach int64) bool {
	return !slices.ContainsFunc(conditions, func(s impl.Sequent) bool {
		symbols, _ := impl.SymbolsOf(append(slices.Clone(s.Facts), s.Goal))
		_, found := impl.LeastCounter(s, reach)
		return found || len(symbols) > 4
	})
}

// TestCodeThatHoldsNearZero follows runs as long as all their numbers are near 0. Where the conditions hold for all such numbers, they break nothing.
func TestCodeThatHoldsNearZero(t *testing.T) {
	near := func(list []int64) bool {
		return !slices.ContainsFunc(list, func(n int64) bool { return n < -2 || n > 2 })
	}
	random := rand.New(rand.NewPCG(75, 76))
	legs, points := 0, 0
	for _, a := range slices.Concat(slipped(random, guardedPrograms(300)), tameAnnotated(900)) {
		conditions, ok := impl.ConditionsOfCode(a)
		if !ok || len(conditions) == 0 || !holdsNear(conditions, 2) {
			continue
		}
		for range 40 {
			s := state()
			for i := range s.Vars {
				s.Vars[i] = random.Int64N(5) - 2
			}
			for i := range s.Cells {
				s.Cells[i] = random.Int64N(5) - 2
			}
			if !allAtLeast0(a.Pre, s.Vars) {
				continue
			}
			x := leg{to: -1}
			x.last = s
			for count, more := 0, true; more && near(x.last.Vars) && count < 50; more = x.to >= 0 {
				x = codeLegOf(a, x.to, x.last)
				if !near(x.values) {
					break
				}
				if x.isBroken(factsAt(a, x.to)) || x.outcome == impl.OutStack {
					t.Fatalf("%s holds near 0, but breaks a promise from %s", shown(a), shown(s))
				}
				legs++
				count++
				if x.to >= 0 {
					points++
				}
			}
		}
	}
	if legs < 3000 || points < 500 {
		t.Errorf("only %d legs, of which %d come to points", legs, points)
	}
}
