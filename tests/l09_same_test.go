package tests

import (
	"testing"

	"loop.example/g01105/impl"
)

// compiled returns the code of those programs that have one.
func compiled(programs []impl.Program) ([]impl.Program, []impl.Annotated) {
	var kept []impl.Program
	var codes []impl.Annotated
	for _, p := range programs {
		if a, ok := impl.CompileProgram(p); ok {
			kept = append(kept, p)
			codes = append(codes, a)
		}
	}
	return kept, codes
}

// changedBy returns code, its optimised code, and the results of each single pass.
func changedBy(t *testing.T, a impl.Annotated) []impl.Annotated {
	t.Helper()
	list := []impl.Annotated{a}
	for _, p := range passes() {
		changed, ok := p.change(a)
		if !ok {
			t.Fatalf("%s fails for %s", p.name, shown(a))
		}
		list = append(list, changed)
	}
	return list
}

// TestConditionsOfCompiledPrograms requires the conditions and paths of programs for their code, and for what the passes make of it.
func TestConditionsOfCompiledPrograms(t *testing.T) {
	alsoConditions, manyStarts := 0, 0
	programs, codes := compiled(programsToCompile(200))
	for i, p := range programs {
		wantPaths, hasPaths := impl.PathsOfProgram(p)
		want, hasConditions := impl.ConditionsOfProgram(p)
		for _, a := range changedBy(t, codes[i]) {
			if paths, ok := impl.PathsOfCode(a); ok && hasPaths {
				same(t, shown(p), results(paths), results(wantPaths))
			}
			conditions, ok := impl.ConditionsOfCode(a)
			if ok && hasConditions {
				same(t, shown(p), results(conditions), results(want))
				alsoConditions++
			}
			for _, start := range codeStarts(a) {
				want, one := impl.ConditionsFrom(p, start)
				got, two := impl.ConditionsAt(a, start)
				if one && two {
					same(t, shown(p), results(got), results(want))
					manyStarts++
				}
			}
		}
	}
	if alsoConditions < 2000 || manyStarts < 3000 {
		t.Errorf("only %d conditions and %d starts", alsoConditions, manyStarts)
	}
}

// TestPassesChangeNoConditions requires the conditions and paths of any annotated code for what the passes make of it. Wherever they exist, they still do.
func TestPassesChangeNoConditions(t *testing.T) {
	counts := map[string]int{}
	for _, a := range codesToOptimise(800) {
		wantPaths, hasPaths := impl.PathsOfCode(a)
		want, hasConditions := impl.ConditionsOfCode(a)
		if !hasPaths {
			continue
		}
		for i, b := range changedBy(t, a)[1:] {
			paths, ok := impl.PathsOfCode(b)
			same(t, shown(a), results(paths, ok), results(wantPaths, true))
			conditions, ok := impl.ConditionsOfCode(b)
			same(t, shown(a), ok, hasConditions)
			if ok {
				same(t, shown(a), results(conditions), results(want))
			}
			if len(b.Code) < len(a.Code) && ok && len(want) > 0 && len(a.Points) > 0 {
				counts[passes()[i].name]++
			}
		}
	}
	for _, p := range passes()[1:] {
		if counts[p.name] < 20 {
			t.Errorf("%s shortens only %d codes that have conditions", p.name, counts[p.name])
		}
	}
}

// doTheSame requires that runs have the same events, last states and outcomes, unless one of them runs out of fuel.
func doTheSame(t *testing.T, what string, got codeRun, want codeRun) bool {
	t.Helper()
	if got.outcome == impl.OutFuel || want.outcome == impl.OutFuel {
		return false
	}
	same(t, what, results(got.last, got.events, got.outcome), results(want.last, want.events, want.outcome))
	return true
}

// TestProgramsAndCodeDoTheSame runs programs, their code and what the passes make of it from many states.
func TestProgramsAndCodeDoTheSame(t *testing.T) {
	outcomes := endOutcomes{}
	programs, codes := compiled(programsToCompile(150))
	states := append(manyStates(), smallStates(15)...)
	for i, p := range programs {
		what, variants := shown(p), changedBy(t, codes[i])
		for k := range 5 {
			s := states[(i+5*k)%len(states)]
			r := runOf(t, p, s, 2000)
			for _, a := range variants {
				if doTheSame(t, what, codeRunOf(t, a.Code, s, 2000), codeRun{r.last, r.events, r.outcome, nil}) {
					outcomes[r.outcome]++
				}
			}
		}
	}
	outcomes.areMany(t)
	if outcomes[impl.OutRange] < 50 {
		t.Errorf("only %d runs end with OutRange", outcomes[impl.OutRange])
	}
}

// TestLongRunsDoTheSame runs a loop as often as there is fuel, which optimised code needs less of.
func TestLongRunsDoTheSame(t *testing.T) {
	loop := read(t, "while a", "do", "put 3 a", "emit 1", "set a a-1", "end")
	a, ok := impl.CompileProgram(loop)
	same(t, "code", results(len(a.Code), ok), results(16, true))
	// The code needs 15 steps for each round, the optimised code 11.
	same(t, "optimised", len(changedBy(t, a)[5].Code), 12)
	ended := make([]int, 6)
	for n := range int64(300) {
		r := runOf(t, loop, state(n), 2000)
		for i, b := range changedBy(t, a) {
			if doTheSame(t, "run", codeRunOf(t, b.Code, state(n), 2000), codeRun{r.last, r.events, r.outcome, nil}) {
				ended[i]++
			}
		}
	}
	same(t, "runs that end", ended, []int{133, 133, 133, 181, 133, 181})
}

// TestPassesChangeNoRuns runs any annotated code that has heights, and what the passes make of it.
func TestPassesChangeNoRuns(t *testing.T) {
	compared := 0
	states := append(manyStates(), smallStates(15)...)
	for i, a := range codesToOptimise(800) {
		if _, ok := impl.HeightsOf(a); !ok {
			continue
		}
		variants := changedBy(t, a)
		for k := range 3 {
			s := states[(i+5*k)%len(states)]
			want := codeRunOf(t, a.Code, s, 500)
			if want.outcome == impl.OutRange {
				// Numbers that are too great on the way may be left out.
				continue
			}
			for _, b := range variants[1:] {
				if doTheSame(t, shown(a), codeRunOf(t, b.Code, s, 500), want) {
					compared++
				}
			}
		}
	}
	if compared < 10000 {
		t.Errorf("only %d runs", compared)
	}
}

// TestOptimisedCodeOfProvedPrograms proves the conditions of programs, and has the same proofs for their optimised code.
func TestOptimisedCodeOfProvedPrograms(t *testing.T) {
	proved := 0
	programs, codes := compiled(guardedPrograms(300))
	for i, p := range programs {
		proofs, ok := impl.ProveProgram(p, 60)
		if !ok {
			continue
		}
		optimised, _ := impl.OptimiseCode(codes[i])
		for _, a := range []impl.Annotated{codes[i], optimised} {
			if conditions, ok := impl.ConditionsOfCode(a); ok {
				same(t, shown(p), impl.AreProved(conditions, proofs), true)
				proved++
			}
		}
	}
	if proved < 100 {
		t.Errorf("only %d codes", proved)
	}
}

// TestConditionsOfTheExample has the conditions of the example of chapter 3, of its code and of its optimised code.
func TestConditionsOfTheExample(t *testing.T) {
	a, ok := impl.CompileProgram(read(t, "while a", "inv a+1", "do", "set a a-1", "end"))
	same(t, "CompileProgram", ok, true)
	for _, b := range changedBy(t, a) {
		areCodeConditions(t, b, -1, "=>a+1")
		areCodeConditions(t, b, 0, "a+1;a;=>a")
	}
}
