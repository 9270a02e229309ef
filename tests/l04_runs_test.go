package tests

import (
	"slices"
	"testing"

	"loop.example/g01105/impl"
)

// leg is a run from a start to the loop or end to which it comes first, or to where it stops.
type leg struct {
	run
	to int64
	// values are what the symbols of its path are: the variables at the start, and then what has been read from cells.
	values []int64
}

// legOf runs a program from a start. The steps do not matter.
func legOf(p impl.Program, start int64, s impl.State) leg {
	x := leg{run: run{last: impl.State{Vars: slices.Clone(s.Vars), Cells: slices.Clone(s.Cells)}}, to: -1, values: slices.Clone(s.Vars)}
	loops := loopsAgain(p.Body)
	next := nextAgain(p.Body)
	k, test := 0, false
	if start >= 0 {
		k, test = loops[start], true
	}
	for k >= 0 {
		e := p.Body[k]
		holds := valueOf(e.Sum, bigValues(x.last.Vars)).Sign() >= 0
		switch {
		case e.Kind == impl.StmtWhile && !test:
			x.to = int64(slices.Index(loops, k))
			return x
		case e.Kind == impl.StmtSeq, e.Kind == impl.StmtIf && holds, e.Kind == impl.StmtWhile && holds:
			k++
		case e.Kind == impl.StmtIf:
			k += 1 + sizeOf(p.Body[k+1:])
		case e.Kind == impl.StmtAssert && !holds:
			x.outcome = impl.OutAssert
			return x
		default:
			if x.outcome = x.stepAgain(e); x.outcome != impl.OutDone {
				return x
			}
			if e.Kind == impl.StmtGet {
				x.values = append(x.values, x.last.Vars[e.Var])
			}
			k = next[k]
		}
		test = false
	}
	return x
}

// symbols returns the values of the symbols; those that are not used are 0.
func (x leg) symbols() []int64 {
	return at(x.values...)
}

func allAtLeast0(list []impl.Term, values []int64) bool {
	for _, x := range list {
		if valueOf(x, bigValues(values)).Sign() < 0 {
			return false
		}
	}
	return true
}

// isPathOf requires that a leg which has come to its end is that of exactly one path, and that a leg which an assertion has stopped is that of none.
func (x leg) isPathOf(t *testing.T, given []impl.Term, start int64, paths []impl.Path) {
	t.Helper()
	var fitting []impl.Path
	for _, path := range paths {
		same(t, "facts of the start", results(path.Facts[:len(given)]), results(given))
		same(t, "From", path.From, start)
		if allAtLeast0(path.Facts[len(given):], x.symbols()) {
			fitting = append(fitting, path)
		}
	}
	if x.outcome != impl.OutDone {
		same(t, "paths through a failed assertion", x.outcome == impl.OutAssert && len(fitting) > 0, false)
		return
	}
	if len(fitting) != 1 {
		t.Fatalf("%d of the paths %v fit to a run from %d", len(fitting), pathTexts(paths), start)
	}
	var ends []int64
	for _, term := range fitting[0].Ends {
		ends = append(ends, valueOf(term, bigValues(x.symbols())).Int64())
	}
	same(t, "the end of a path", results(fitting[0].To, ends, fitting[0].Events), results(x.to, x.last.Vars, x.events))
}

// isBroken reports whether a leg breaks a promise, where some facts are promised at its end.
func (x leg) isBroken(facts []impl.Term) bool {
	if x.outcome == impl.OutDone {
		return !allAtLeast0(facts, x.last.Vars)
	}
	return x.outcome == impl.OutCell || x.outcome == impl.OutAssert
}

// endFacts returns the facts that a program promises at the loop or end to which a leg comes.
func (x leg) endFacts(p impl.Program) []impl.Term {
	if x.to < 0 {
		return p.Post
	}
	facts, _ := impl.StartFacts(p, x.to)
	return facts
}

func (x leg) isCounterOf(list []impl.Sequent) bool {
	return slices.ContainsFunc(list, func(s impl.Sequent) bool { return impl.IsCounter(s, x.symbols()) })
}

// knownOfStart is what is known of a start of a program or of code.
type knownOfStart struct {
	start      int64
	given      []impl.Term
	paths      []impl.Path
	conditions []impl.Sequent
	// few tells whether the conditions exist.
	few bool
}

// legCounts counts legs, and of those where the facts of the start hold, those that break a promise.
type legCounts struct{ legs, broken, kept int }

// add requires that a leg is that of a path. Where the facts of the start hold, it must be a counterexample of a condition if and only if it breaks a promise, also that of some facts at its end.
func (c *legCounts) add(t *testing.T, x leg, known knownOfStart, promised []impl.Term) {
	t.Helper()
	x.isPathOf(t, known.given, known.start, known.paths)
	c.legs++
	if !known.few || x.outcome == impl.OutRange || !allAtLeast0(known.given, x.values) {
		return
	}
	isBroken := x.isBroken(promised)
	same(t, "a counterexample", x.isCounterOf(known.conditions), isBroken)
	if isBroken {
		c.broken++
	} else {
		c.kept++
	}
}

func (c *legCounts) areMany(t *testing.T) {
	t.Helper()
	if c.legs < 5000 || c.broken < 500 || c.kept < 500 {
		t.Errorf("only %v", *c)
	}
}

// chained follows legs from the entry to the end of a run. It returns the last one with the events of all, and whether one of them is a counterexample.
func chained(s impl.State, legFrom func(start int64, s impl.State) leg, conditions []impl.Sequent) (leg, bool) {
	x := leg{to: -1}
	x.last = s
	counter := false
	var events []int64
	for more := true; more; more = x.to >= 0 {
		x = legFrom(x.to, x.last)
		events = append(events, x.events...)
		counter = counter || x.isCounterOf(conditions)
	}
	x.events = events
	return x, counter
}

// endOutcomes counts how runs end.
type endOutcomes map[int64]int

func (c endOutcomes) areMany(t *testing.T) {
	t.Helper()
	for _, outcome := range []int64{impl.OutDone, impl.OutCell, impl.OutAssert} {
		if c[outcome] < 20 {
			t.Errorf("only %d runs end with %d", c[outcome], outcome)
		}
	}
}

// TestPathsAreExecutions runs programs from all starts, in states of any kind, and compares with the paths. Where the facts of the start hold, the run is a counterexample of a condition if and only if it breaks one.
func TestPathsAreExecutions(t *testing.T) {
	var counts legCounts
	for i, p := range slices.Concat(tamePrograms(600), manyPrograms(300), crowdedPrograms(100)) {
		for _, start := range startsAgain(p) {
			paths, ok := impl.PathsFrom(p, start)
			if !ok {
				continue
			}
			conditions, few := impl.ConditionsFrom(p, start)
			given, _ := impl.StartFacts(p, start)
			known := knownOfStart{start, given, paths, conditions, few}
			for k := range 5 {
				s := manyStates()[(i+3*k)%13]
				x := legOf(p, start, s)
				counts.add(t, x, known, x.endFacts(p))
			}
		}
	}
	counts.areMany(t)
}

// TestStraightPathsAreRuns compares the paths of programs without loops and StmtGet with their runs.
func TestStraightPathsAreRuns(t *testing.T) {
	count := 0
	for _, p := range slices.Concat(tamePrograms(900), manyPrograms(600)) {
		paths, ok := impl.PathsOfProgram(p)
		if !ok || slices.ContainsFunc(p.Body, func(e impl.Stmt) bool { return isIn(e.Kind, impl.StmtWhile, impl.StmtGet) }) {
			continue
		}
		for _, s := range manyStates() {
			r := runOf(t, p, s, 2000)
			if r.outcome == impl.OutDone {
				leg{r, -1, s.Vars}.isPathOf(t, p.Pre, -1, paths)
				count++
			}
		}
	}
	if count < 1000 {
		t.Errorf("only %d runs", count)
	}
}

// TestRunsOfPaths follows whole runs from path to path. A run from a state in which Pre holds can only break the program where it is a counterexample of a condition.
func TestRunsOfPaths(t *testing.T) {
	outcomes := endOutcomes{}
	for i, p := range tamePrograms(900) {
		conditions, ok := impl.ConditionsOfProgram(p)
		s := manyStates()[i%13]
		whole := runOf(t, p, s, 2000)
		if holds, _ := impl.HoldsAt(p, -1, s); !ok || !holds || whole.outcome == impl.OutFuel {
			continue
		}
		x, counter := chained(s, func(start int64, s impl.State) leg { return legOf(p, start, s) }, conditions)
		same(t, "the end of a run", results(x.last, x.events, x.outcome), results(whole.last, whole.events, whole.outcome))
		if x.isBroken(x.endFacts(p)) && !counter {
			t.Errorf("no condition is broken by the run of %s from %s", shown(p), shown(s))
		}
		outcomes[whole.outcome]++
	}
	outcomes.areMany(t)
}

// TestProvedProgram runs a program whose conditions have no counterexample: it fills cells up to a place that is read from a cell.
func TestProvedProgram(t *testing.T) {
	p := read(t, "pre a", "pre -a+7", "get b a", "if b-8", "set b 7", "else", "if -b-1", "set b 0", "else", "skip", "end", "end", "set c 0", "while b-c", "inv c", "inv -c+8", "inv b", "inv -b+7", "do", "put c a", "emit 1", "set c c+1", "end", "assert -b+c-1", "post c-1")
	conditions, ok := impl.ConditionsOfProgram(p)
	same(t, "conditions", results(len(conditions), ok), results(22, true))
	for _, s := range conditions {
		if values, ok := impl.LeastCounter(s, 4); ok {
			t.Errorf("%v is a counterexample of %s", values, sequentTexts([]impl.Sequent{s})[0])
		}
	}
	for _, s := range manyStates() {
		if holds, _ := impl.HoldsAt(p, -1, s); holds {
			r := runOf(t, p, s, 2000)
			same(t, "outcome", r.outcome, int64(impl.OutDone))
			same(t, "events", len(r.events), int(r.last.Vars[2]))
			same(t, "Post", allAtLeast0(p.Post, r.last.Vars), true)
		}
	}
}
