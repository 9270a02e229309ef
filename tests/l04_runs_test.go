package tests

import (
	"slices"
	"testing"

	"loop.example/g01105/impl"
)

// leg is a run from a start to the loop or end to which it comes first, or to where it stops.
type leg struct {
	run
	to int64
	// values are what the symbols of its path are: the variables at the start, and then what has been read from cells.
	values []int64
}

// legOf runs a program from a start. The steps do not matter.
func legOf(p impl.Program, start int64, s impl.State) leg {
	x := leg{run: run{last: impl.State{Vars: slices.Clone(s.Vars), Cells: slices.Clone(s.Cells)}}, to: -1, values: slices.Clone(s.Vars)}
	loops := loopsAgain(p.Body)
	next := nextAgain(p.Body)
	k, test := 0, false
	if start >= 0 {
		k, test = loops[start], true
	}
	for k >= 0 {
		e := p.Body[k]
		holds := valueOf(e.Sum, bigValues(x.last.Vars)).Sign() >= 0
		switch {
		case e.Kind == impl.StmtWhile && !test:
			x.to = int64(slices.Index(loops, k))
			return x
		case e.Kind == impl.StmtSeq, e.Kind == impl.StmtIf && holds, e.Kind == impl.StmtWhile && holds:
			k++
		case e.Kind == impl.StmtIf:
			k += 1 + sizeOf(p.Body[k+1:])
		case e.Kind == impl.StmtAssert && !holds:
			x.outcome = impl.OutAssert
			return x
		default:
			if x.outcome = x.stepAgain(e); x.outcome != impl.OutDone {
				return x
			}
			if e.Kind == impl.StmtGet {
				x.values = append(x.values, x.last.Vars[e.Var])
			}
			k = next[k]
		}
		test = false
	}
	return x
}

// symbols returns the values of the symbols; those that are not used are 0.
func (x leg) symbols() []int64 {
	return at(x.values...)
}

func allAtLeast0(list []impl.Term, values []int64) bool {
	for _, x := range list {
		if valueOf(x, bigValues(values)).Sign() < 0 {
			return false
		}
	}
	return true
}

// isPathOf requires that a leg which has come to its end is that of exactly one path, and that a leg which an assertion has stopped is that of none.
func (x leg) isPathOf(t *testing.T, p impl.Program, start int64, paths []impl.Path) {
	t.Helper()
	given, _ := impl.StartFacts(p, start)
	var fitting []impl.Path
	for _, path := range paths {
		same(t, "facts of the start", results(path.Facts[:len(given)]), results(given))
		same(t, "From", path.From, start)
		if allAtLeast0(path.Facts[len(given):], x.symbols()) {
			fitting = append(fitting, path)
		}
	}
	if x.outcome != impl.OutDone {
		same(t, "paths through a failed assertion", x.outcome == impl.OutAssert && len(fitting) > 0, false)
		return
	}
	if len(fitting) != 1 {
		t.Fatalf("%d paths fit to a run of %s from %d", len(fitting), shown(p), start)
	}
	var ends []int64
	for _, term := range fitting[0].Ends {
		ends = append(ends, valueOf(term, bigValues(x.symbols())).Int64())
	}
	same(t, "the end of a path", results(fitting[0].To, ends, fitting[0].Events), results(x.to, x.last.Vars, x.events))
}

// isBroken reports whether a leg shows that a program does not keep its promises.
func (x leg) isBroken(p impl.Program) bool {
	if x.to >= 0 {
		holds, _ := impl.HoldsAt(p, x.to, x.last)
		return !holds
	}
	if x.outcome == impl.OutDone {
		return !allAtLeast0(p.Post, x.last.Vars)
	}
	return x.outcome == impl.OutCell || x.outcome == impl.OutAssert
}

func (x leg) isCounterOf(list []impl.Sequent) bool {
	return slices.ContainsFunc(list, func(s impl.Sequent) bool { return impl.IsCounter(s, x.symbols()) })
}

// TestPathsAreExecutions runs programs from all starts, in states of any kind, and compares with the paths. Where the facts of the start hold, the run is a counterexample of a condition if and only if it breaks one.
func TestPathsAreExecutions(t *testing.T) {
	var legs, broken, kept int
	for i, p := range slices.Concat(tamePrograms(600), manyPrograms(300), crowdedPrograms(100)) {
		for _, start := range startsAgain(p) {
			paths, ok := impl.PathsFrom(p, start)
			if !ok {
				continue
			}
			conditions, few := impl.ConditionsFrom(p, start)
			for k := range 5 {
				s := manyStates()[(i+3*k)%13]
				x := legOf(p, start, s)
				x.isPathOf(t, p, start, paths)
				legs++
				if holds, _ := impl.HoldsAt(p, start, s); !holds || !few || x.outcome == impl.OutRange {
					continue
				}
				same(t, shown(p), x.isCounterOf(conditions), x.isBroken(p))
				if x.isBroken(p) {
					broken++
				} else {
					kept++
				}
			}
		}
	}
	if legs < 5000 || broken < 500 || kept < 500 {
		t.Errorf("%d legs, of which %d break a condition and %d do not", legs, broken, kept)
	}
}

// TestStraightPathsAreRuns compares the paths of programs without loops and StmtGet with their runs.
func TestStraightPathsAreRuns(t *testing.T) {
	count := 0
	for _, p := range slices.Concat(tamePrograms(900), manyPrograms(600)) {
		paths, ok := impl.PathsOfProgram(p)
		if !ok || slices.ContainsFunc(p.Body, func(e impl.Stmt) bool { return isIn(e.Kind, impl.StmtWhile, impl.StmtGet) }) {
			continue
		}
		for _, s := range manyStates() {
			r := runOf(t, p, s, 2000)
			if r.outcome == impl.OutDone {
				leg{r, -1, s.Vars}.isPathOf(t, p, -1, paths)
				count++
			}
		}
	}
	if count < 1000 {
		t.Errorf("only %d runs", count)
	}
}

// TestRunsOfPaths follows whole runs from path to path. A run from a state in which Pre holds can only break the program where it is a counterexample of a condition.
func TestRunsOfPaths(t *testing.T) {
	outcomes := map[int64]int{}
	for i, p := range tamePrograms(900) {
		conditions, ok := impl.ConditionsOfProgram(p)
		s := manyStates()[i%13]
		whole := runOf(t, p, s, 2000)
		if holds, _ := impl.HoldsAt(p, -1, s); !ok || !holds || whole.outcome == impl.OutFuel {
			continue
		}
		x := leg{to: -1}
		x.last = s
		counter := false
		var events []int64
		for more := true; more; more = x.to >= 0 {
			x = legOf(p, x.to, x.last)
			events = append(events, x.events...)
			counter = counter || x.isCounterOf(conditions)
		}
		same(t, "the end of a run", results(x.last, events, x.outcome), results(whole.last, whole.events, whole.outcome))
		if x.isBroken(p) && !counter {
			t.Errorf("no condition is broken by the run of %s from %s", shown(p), shown(s))
		}
		outcomes[whole.outcome]++
	}
	for _, outcome := range []int64{impl.OutDone, impl.OutCell, impl.OutAssert} {
		if outcomes[outcome] < 20 {
			t.Errorf("only %d runs end with %d", outcomes[outcome], outcome)
		}
	}
}

// TestProvedProgram runs a program whose conditions have no counterexample: it fills cells up to a place that is read from a cell.
func TestProvedProgram(t *testing.T) {
	p := read(t, "pre a", "pre -a+7", "get b a", "if b-8", "set b 7", "else", "if -b-1", "set b 0", "else", "skip", "end", "end", "set c 0", "while b-c", "inv c", "inv -c+8", "inv b", "inv -b+7", "do", "put c a", "emit 1", "set c c+1", "end", "assert -b+c-1", "post c-1")
	conditions, ok := impl.ConditionsOfProgram(p)
	same(t, "conditions", results(len(conditions), ok), results(22, true))
	for _, s := range conditions {
		if values, ok := impl.LeastCounter(s, 4); ok {
			t.Errorf("%v is a counterexample of %s", values, sequentTexts([]impl.Sequent{s})[0])
		}
	}
	for _, s := range manyStates() {
		if holds, _ := impl.HoldsAt(p, -1, s); holds {
			r := runOf(t, p, s, 2000)
			same(t, "outcome", r.outcome, int64(impl.OutDone))
			same(t, "events", len(r.events), int(r.last.Vars[2]))
			same(t, "Post", allAtLeast0(p.Post, r.last.Vars), true)
		}
	}
}
