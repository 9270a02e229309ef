package tests

import (
	"slices"
	"testing"

	"loop.example/g01105/impl"
)

// pointAgain returns the number of the point at a place, or -1.
func pointAgain(a impl.Annotated, place int64) int64 {
	for number, p := range a.Points {
		if p.At == place {
			return int64(number)
		}
	}
	return -1
}

// openTargets returns the instructions without points to which an instruction goes on.
func openTargets(a impl.Annotated, k int64) []int64 {
	var open []int64
	for place := range targetsAgain(a.Code[k], k) {
		if place < int64(len(a.Code)) && pointAgain(a, place) < 0 {
			open = append(open, place)
		}
	}
	return open
}

// circlesAgain returns the instructions on circles without a point by another way: each is searched from itself.
func circlesAgain(a impl.Annotated) []int64 {
	var circles []int64
	for k := range int64(len(a.Code)) {
		seen := map[int64]bool{}
		waiting := openTargets(a, k)
		for len(waiting) > 0 {
			place := waiting[0]
			waiting = waiting[1:]
			if !seen[place] {
				seen[place] = true
				waiting = append(waiting, openTargets(a, place)...)
			}
		}
		if seen[k] {
			circles = append(circles, k)
		}
	}
	return circles
}

// heightsAtPoints returns the heights of annotated code by another way.
func heightsAtPoints(a impl.Annotated) ([]int64, bool) {
	levels, ok := levelsAgain(a.Code)
	for _, p := range a.Points {
		ok = ok && levels[p.At] <= 0
	}
	return levels, ok
}

// longestAgain returns the length of the longest way by another way: the longest one from each instruction.
func longestAgain(a impl.Annotated) (int64, bool) {
	levels, ok := heightsAtPoints(a)
	for _, k := range circlesAgain(a) {
		ok = ok && levels[k] < 0
	}
	if !ok {
		return 0, false
	}
	known := map[int64]int64{}
	var from func(k int64) int64
	from = func(k int64) int64 {
		if known[k] == 0 {
			most := int64(0)
			for _, next := range openTargets(a, k) {
				most = max(most, from(next))
			}
			known[k] = 1 + most
		}
		return known[k]
	}
	most := int64(0)
	for _, k := range reachAgain(a.Code) {
		most = max(most, from(k))
	}
	return most, true
}

// codePathAgain is a path of code that is followed alone.
type codePathAgain struct {
	pathAgain
	stack []row
}

func (x *codePathAgain) push(r row) {
	x.stack = append(x.stack, x.checked(r))
}

// take removes the uppermost terms, the topmost last.
func (x *codePathAgain) take(count int) []row {
	left := len(x.stack) - count
	taken := slices.Clone(x.stack[left:])
	x.stack = x.stack[:left]
	return taken
}

// step executes an instruction and returns the place behind it.
func (x *codePathAgain) step(instr impl.Instr, place int64) int64 {
	taken := x.take(opRows()[instr.Op].pops)
	switch instr.Op {
	case impl.OpPush:
		x.push(row{10: instr.Arg})
	case impl.OpLoad:
		x.push(x.vars[instr.Arg])
	case impl.OpStore:
		x.vars[instr.Arg] = taken[0]
	case impl.OpAdd:
		x.push(taken[0].plus(1, taken[1]))
	case impl.OpScale:
		x.push(row{}.plus(instr.Arg, taken[0]))
	case impl.OpJump:
		return instr.Arg
	case impl.OpTest:
		if !x.part(taken[0]) {
			return instr.Arg
		}
	case impl.OpGet:
		x.cellGoals(taken[0])
		x.push(x.fresh())
	case impl.OpPut:
		x.cellGoals(taken[0])
	case impl.OpEmit:
		x.path.Events = append(x.path.Events, instr.Arg)
	case impl.OpCheck:
		x.goal(taken[0])
		x.assume(taken[0])
	}
	return place + 1
}

// walk follows the path from a place, at which it may have just started.
func (x *codePathAgain) walk(a impl.Annotated, place int64, started bool) {
	for ; !x.bad; started = false {
		if number := pointAgain(a, place); number >= 0 && !started {
			x.bad = len(x.stack) > 0
			x.end(number, a.Points[number].Facts)
			return
		}
		if place >= int64(len(a.Code)) {
			x.bad = true
			return
		}
		instr := a.Code[place]
		form := opRows()[instr.Op]
		if left := len(x.stack) - form.pops; left < 0 || left+form.pushes > 6 {
			x.bad = true
			return
		}
		if instr.Op == impl.OpHalt {
			x.end(-1, a.Post)
			return
		}
		place = x.step(instr, place)
	}
}

func followCodeAgain(a impl.Annotated, start int64, choices []bool) pathAgain {
	facts, place := a.Pre, int64(0)
	if start >= 0 {
		facts, place = a.Points[start].Facts, a.Points[start].At
	}
	x := codePathAgain{pathAgain: newPathAgain(start, facts, choices)}
	x.walk(a, place, start >= 0)
	return x.pathAgain
}

// codePathsAgain returns paths and conditions of code as pathsAgain does.
func codePathsAgain(a impl.Annotated, starts ...int64) (paths []impl.Path, conditions []impl.Sequent, ok, few bool) {
	if _, ok := heightsAtPoints(a); !ok || len(circlesAgain(a)) > 0 {
		return nil, nil, false, false
	}
	return pathsAgain(a, followCodeAgain, starts...)
}

// codeStarts returns the starts of annotated code in order.
func codeStarts(a impl.Annotated) []int64 {
	return append([]int64{-1}, counted(int64(len(a.Points)))...)
}

// TestCodePathsAgain compares paths and conditions with those that are found by the other way.
func TestCodePathsAgain(t *testing.T) {
	counts := map[string]int{}
	for _, a := range slices.Concat(tameAnnotated(1200), wildAnnotated(1500), crowdedAnnotated(800)) {
		wantPaths, wantConditions, ok, few := codePathsAgain(a, codeStarts(a)...)
		paths, one := impl.PathsOfCode(a)
		same(t, "PathsOfCode", results(paths, one), results(wantPaths, ok))
		conditions, two := impl.ConditionsOfCode(a)
		same(t, "ConditionsOfCode", results(conditions, two), results(wantConditions, few))
		for _, start := range codeStarts(a) {
			_, wantConditions, _, wanted := codePathsAgain(a, start)
			conditions, ok := impl.ConditionsAt(a, start)
			same(t, "ConditionsAt", results(conditions, ok), results(wantConditions, wanted))
			if ok && !few {
				counts["one start has conditions"]++
			}
		}
		switch {
		case !ok:
			counts["no paths"]++
		case !few:
			counts["no conditions"]++
		case len(paths) > len(codeStarts(a)) && len(a.Points) > 0:
			counts["many paths"]++
		}
	}
	for _, what := range []string{"one start has conditions", "no paths", "no conditions", "many paths"} {
		if counts[what] < 100 {
			t.Errorf("%s: only %d", what, counts[what])
		}
	}
}

// TestAnnotatedAgain compares heights, open loops and longest ways with those that are found by another way.
func TestAnnotatedAgain(t *testing.T) {
	counts := map[string]int{}
	for _, a := range slices.Concat(tameAnnotated(1000), wildAnnotated(3000), validAnnotated()) {
		wantHeights, ok := heightsAtPoints(a)
		heights, one := impl.HeightsOf(a)
		if ok {
			same(t, "HeightsOf", results(heights, one), results(wantHeights, true))
			counts["heights"]++
		} else {
			fails(t, "HeightsOf", heights, one)
		}
		wantOpen := circlesAgain(a)
		open, two := impl.OpenLoops(a)
		same(t, "OpenLoops", results(open, two), results(wantOpen, true))
		wantLongest, exists := longestAgain(a)
		longest, three := impl.LongestWay(a)
		same(t, "LongestWay", results(longest, three), results(wantLongest, exists))
		switch {
		case exists && len(wantOpen) > 0:
			counts["loops that are not reached"]++
		case ok && len(wantOpen) > 0:
			counts["open loops"]++
		case exists && len(a.Points) > 0:
			counts["longest ways"]++
		}
	}
	for _, what := range []string{"heights", "open loops", "loops that are not reached", "longest ways"} {
		if counts[what] < 50 {
			t.Errorf("%s: only %d", what, counts[what])
		}
	}
}
