package tests

import (
	"slices"
	"testing"

	"loop.example/g01105/impl"
)

// row is a term with a place for each symbol, and its constant last.
type row [11]int64

func rowOf(t impl.Term) row {
	r := row{10: t.Const}
	copy(r[:10], t.Coeffs)
	return r
}

func (r row) plus(n int64, other row) row {
	for i := range r {
		r[i] += n * other[i]
	}
	return r
}

func (r row) term() impl.Term {
	t := fact(r[10])
	for i, n := range r[:10] {
		if n != 0 {
			t.Coeffs = slices.Clone(r[:i+1])
		}
	}
	return t
}

// nextAgain returns for each element of a body what is executed behind its statement: an element, or -1 for nothing.
func nextAgain(body []impl.Stmt) []int {
	next := make([]int, len(body))
	next[0] = -1
	for k, e := range body {
		switch e.Kind {
		case impl.StmtSeq:
			second := k + 1 + sizeOf(body[k+1:])
			next[k+1], next[second] = second, next[k]
		case impl.StmtIf:
			second := k + 1 + sizeOf(body[k+1:])
			next[k+1], next[second] = next[k], next[k]
		case impl.StmtWhile:
			next[k+1] = k
		}
	}
	return next
}

func loopsAgain(body []impl.Stmt) []int {
	var loops []int
	for k, e := range body {
		if e.Kind == impl.StmtWhile {
			loops = append(loops, k)
		}
	}
	return loops
}

// goalAgain is a condition with the number of tests before it.
type goalAgain struct {
	tests     int
	condition impl.Sequent
}

// pathAgain is a path that is followed alone, with given choices at its first tests, and the first way at all others.
type pathAgain struct {
	path    impl.Path
	choices []bool
	tests   int
	vars    [4]row
	symbols int
	goals   []goalAgain
	bad     bool
}

func newPathAgain(start int64, facts []impl.Term, choices []bool) pathAgain {
	x := pathAgain{path: impl.Path{From: start, Facts: slices.Clone(facts)}, choices: choices, symbols: 4}
	for i := range x.vars {
		x.vars[i][i] = 1
	}
	return x
}

func (x *pathAgain) replaced(t impl.Term) row {
	sum := row{10: t.Const}
	for i, n := range t.Coeffs {
		sum = sum.plus(n, x.vars[i])
	}
	return sum
}

func (x *pathAgain) checked(r row) row {
	for _, n := range r {
		if n > 1000000 || n < -1000000 {
			x.bad = true
		}
	}
	return r
}

func (x *pathAgain) goal(r row) {
	condition := impl.Sequent{Facts: slices.Clone(x.path.Facts), Goal: x.checked(r).term()}
	x.goals = append(x.goals, goalAgain{x.tests, condition})
}

func (x *pathAgain) cellGoals(index row) {
	x.goal(index)
	x.goal(row{10: 7}.plus(-1, index))
}

// fresh returns the next symbol, if one is left.
func (x *pathAgain) fresh() row {
	if x.symbols == 10 {
		x.bad = true
		return row{}
	}
	x.symbols++
	symbol := row{}
	symbol[x.symbols-1] = 1
	return symbol
}

func (x *pathAgain) assume(r row) {
	x.path.Facts = append(x.path.Facts, x.checked(r).term())
	x.bad = x.bad || len(x.path.Facts) > 12
}

// choice returns whether the next test goes the first way.
func (x *pathAgain) choice() bool {
	if x.tests == len(x.choices) {
		x.choices = append(x.choices, true)
	}
	x.tests++
	return x.choices[x.tests-1]
}

// part follows a test. Its opposite arises on the other way even if this one is the first.
func (x *pathAgain) part(fact row) bool {
	x.checked(fact)
	opposite := x.checked(row{10: -1}.plus(-1, fact))
	if x.choice() {
		x.assume(fact)
		return true
	}
	x.assume(opposite)
	return false
}

func (x *pathAgain) leaf(e impl.Stmt) {
	switch index := x.replaced(e.Index); e.Kind {
	case impl.StmtSet:
		x.vars[e.Var] = x.checked(x.replaced(e.Sum))
	case impl.StmtGet:
		x.cellGoals(index)
		x.vars[e.Var] = x.fresh()
	case impl.StmtPut:
		x.cellGoals(index)
	case impl.StmtEmit:
		x.path.Events = append(x.path.Events, e.Event)
	case impl.StmtAssert:
		x.goal(x.replaced(e.Sum))
		x.assume(x.replaced(e.Sum))
	}
}

// follow follows a path of a program from an element, where test tells that it is a loop whose test comes first.
func (x *pathAgain) follow(p impl.Program, k int, test bool) {
	next := nextAgain(p.Body)
	for k >= 0 {
		e := p.Body[k]
		switch {
		case e.Kind == impl.StmtSeq:
			k++
		case e.Kind == impl.StmtIf && x.part(x.replaced(e.Sum)):
			k++
		case e.Kind == impl.StmtIf:
			k += 1 + sizeOf(p.Body[k+1:])
		case e.Kind == impl.StmtWhile && !test:
			x.end(int64(slices.Index(loopsAgain(p.Body), k)), e.Facts)
			return
		case e.Kind == impl.StmtWhile && x.part(x.replaced(e.Sum)):
			k++
		default:
			x.leaf(e)
			k = next[k]
		}
		test = false
	}
	x.end(-1, p.Post)
}

func (x *pathAgain) end(to int64, facts []impl.Term) {
	x.path.To = to
	for _, t := range facts {
		x.goal(x.replaced(t))
	}
	for _, r := range x.vars {
		x.path.Ends = append(x.path.Ends, r.term())
	}
}

func followAgain(p impl.Program, start int64, choices []bool) pathAgain {
	facts, first := p.Pre, 0
	if start >= 0 {
		first = loopsAgain(p.Body)[start]
		facts = p.Body[first].Facts
	}
	x := newPathAgain(start, facts, choices)
	x.follow(p, first, start >= 0)
	return x
}

// choicesAfter returns the first choices of the path that comes after one with given choices: the last first way is the second one there.
func choicesAfter(choices []bool) ([]bool, bool) {
	for last, first := range slices.Backward(choices) {
		if first {
			return append(slices.Clone(choices[:last]), false), true
		}
	}
	return nil, false
}

// pathsAgain returns the paths and conditions of some starts of a program, or of annotated code, by another way: each path is followed alone from its start. It tells whether the paths exist, and whether the conditions do.
func pathsAgain[A any](source A, follow func(A, int64, []bool) pathAgain, starts ...int64) (paths []impl.Path, conditions []impl.Sequent, ok, few bool) {
	for _, start := range starts {
		var choices []bool
		for more := true; more; {
			x := follow(source, start, choices)
			if paths = append(paths, x.path); x.bad || len(paths) > 200 {
				return nil, nil, false, false
			}
			for _, goal := range x.goals {
				// The goals before the last given choice are those of the path before.
				if goal.tests >= len(choices) {
					conditions = append(conditions, goal.condition)
				}
			}
			choices, more = choicesAfter(x.choices)
		}
	}
	if len(conditions) > 60 {
		return paths, nil, true, false
	}
	return paths, conditions, true, true
}

func startsAgain(p impl.Program) []int64 {
	starts := []int64{-1}
	for i := range loopsAgain(p.Body) {
		starts = append(starts, int64(i))
	}
	return starts
}

// TestPathsAgain compares paths and conditions with those that are found by the other way.
func TestPathsAgain(t *testing.T) {
	count := map[[2]bool]int{}
	for _, p := range slices.Concat(manyPrograms(600), tamePrograms(600), crowdedPrograms(600)) {
		for _, start := range startsAgain(p) {
			wantPaths, wantConditions, ok, few := pathsAgain(p, followAgain, start)
			paths, one := impl.PathsFrom(p, start)
			same(t, "PathsFrom", results(paths, one), results(wantPaths, ok))
			conditions, two := impl.ConditionsFrom(p, start)
			same(t, "ConditionsFrom", results(conditions, two), results(wantConditions, few))
		}
		wantPaths, wantConditions, ok, few := pathsAgain(p, followAgain, startsAgain(p)...)
		paths, one := impl.PathsOfProgram(p)
		same(t, "PathsOfProgram", results(paths, one), results(wantPaths, ok))
		conditions, two := impl.ConditionsOfProgram(p)
		same(t, "ConditionsOfProgram", results(conditions, two), results(wantConditions, few))
		count[[2]bool{ok, few}]++
	}
	for _, kind := range [][2]bool{{false, false}, {true, false}, {true, true}} {
		if count[kind] < 100 {
			t.Errorf("only %d programs are %v", count[kind], kind)
		}
	}
}
