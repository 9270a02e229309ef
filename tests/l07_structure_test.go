package tests

import (
	"maps"
	"math"
	"math/rand/v2"
	"slices"
	"testing"

	"loop.example/g01105/impl"
)

// targetsAgain returns the places behind an instruction as a set.
func targetsAgain(x impl.Instr, k int64) map[int64]bool {
	places := map[int64]bool{}
	if isIn(x.Op, impl.OpJump, impl.OpTest) {
		places[x.Arg] = true
	}
	if !isIn(x.Op, impl.OpJump, impl.OpHalt) {
		places[k+1] = true
	}
	return places
}

// heightsAgain returns all heights at each place by another way: it goes to each place with each height. It also tells whether the stack is always as it must be.
func heightsAgain(code []impl.Instr) (map[int64]map[int]bool, bool) {
	heights, fits := map[int64]map[int]bool{}, true
	var visit func(place int64, height int)
	visit = func(place int64, height int) {
		if heights[place][height] {
			return
		}
		if heights[place] == nil {
			heights[place] = map[int]bool{}
		}
		heights[place][height] = true
		if place >= int64(len(code)) {
			fits = false
			return
		}
		row := opRows()[code[place].Op]
		behind := height - row.pops + row.pushes
		if height < row.pops || behind > 6 {
			fits = false
			return
		}
		for target := range targetsAgain(code[place], place) {
			visit(target, behind)
		}
	}
	visit(0, 0)
	return heights, fits
}

// levelsAgain returns the height at each instruction, and whether there is but one, by another way.
func levelsAgain(code []impl.Instr) ([]int64, bool) {
	all, fits := heightsAgain(code)
	levels := repeated(-1, len(code))
	for place, heights := range all {
		fits = fits && len(heights) == 1
		for height := range heights {
			if place < int64(len(code)) {
				levels[place] = int64(height)
			}
		}
	}
	return levels, fits
}

// reachAgain returns the instructions that are reached, by another way.
func reachAgain(code []impl.Instr) []int64 {
	reached := map[int64]bool{}
	var visit func(place int64)
	visit = func(place int64) {
		if place >= int64(len(code)) || reached[place] {
			return
		}
		reached[place] = true
		for target := range targetsAgain(code[place], place) {
			visit(target)
		}
	}
	visit(0)
	return slices.Sorted(maps.Keys(reached))
}

func TestTargets(t *testing.T) {
	code := instrs("load 0;test 4;test 3;jump 0;jump 79;emit 1;test 40;halt;check")
	want := [][]int64{{1}, {2, 4}, {3}, {0}, {79}, {6}, {7, 40}, {}, {9}}
	for k, places := range want {
		got, ok := impl.TargetsOf(code, int64(k))
		same(t, "TargetsOf", results(got, ok), results(places, true))
	}
	for _, k := range []int64{-1, 9, 10, 80, math.MinInt64, math.MaxInt64} {
		got, ok := impl.TargetsOf(code, k)
		fails(t, "TargetsOf", got, ok)
	}
	for _, row := range opRows() {
		for _, arg := range []int64{row.low, row.high} {
			full := alike(impl.Instr{Op: row.op, Arg: arg}, 80)
			for k := range int64(80) {
				got, ok := impl.TargetsOf(full, k)
				same(t, row.name, results(got, ok), results(slices.Sorted(maps.Keys(targetsAgain(full[k], k))), true))
			}
		}
	}
	for _, bad := range badCodes() {
		got, ok := impl.TargetsOf(bad, 0)
		fails(t, "TargetsOf", got, ok)
	}
}

// TestStepsGoToTargets requires that each place where a step goes on is a target, and that each target is one where a step goes on.
func TestStepsGoToTargets(t *testing.T) {
	random := rand.New(rand.NewPCG(59, 60))
	for _, code := range manyCodes(200) {
		for _, c := range manyConfigs(random, code, 30) {
			next, outcome, _ := impl.StepCode(code, c)
			targets, ok := impl.TargetsOf(code, c.At)
			if outcome == impl.OutDone && !(ok && isIn(next.At, targets...)) {
				t.Fatalf("%s goes from %d to %d", shown(code), c.At, next.At)
			}
		}
	}
	for _, row := range opRows() {
		code, arg := instrs("halt;halt;halt"), row.high
		code[1] = impl.Instr{Op: row.op, Arg: arg}
		places := map[int64]bool{}
		for _, n := range []int64{-1, 0, 1} {
			for count := range 3 {
				next, outcome, _ := impl.StepCode(code, configOf(state(), 1, repeated(n, count)...))
				if outcome == impl.OutDone {
					places[next.At] = true
				}
			}
		}
		same(t, row.name, results(slices.Sorted(maps.Keys(places))), results(slices.Sorted(maps.Keys(targetsAgain(code[1], 1)))))
	}
}

func TestReachableCode(t *testing.T) {
	cases := []struct {
		text string
		want []int64
	}{
		{"halt", list(0)}, {"emit 1", list(0)}, {"jump 0", list(0)}, {"jump 79", list(0)}, {"jump 2;emit 1;halt", list(0, 2)}, {"halt;emit 1;jump 0", list(0)},
		{"jump 3;emit 1;halt;jump 1", list(0, 1, 2, 3)}, {"jump 4;halt;emit 1;jump 1;jump 3", list(0, 1, 3, 4)}, {"load 0;test 4;emit 1;jump 0;halt", list(0, 1, 2, 3, 4)}, {"load 0;test 4;emit 1;jump 0", list(0, 1, 2, 3)},
		{"test 2;halt;jump 79;emit 1", list(0, 1, 2)}, {"jump 2;jump 1;halt", list(0, 2)}, {"jump 1;jump 2;jump 0;halt", list(0, 1, 2)}, {"add;put;test 3;get;get", list(0, 1, 2, 3, 4)}, {"jump 1;jump 5;jump 3;jump 2", list(0, 1)},
	}
	for _, c := range cases {
		got, ok := impl.ReachableCode(instrs(c.text))
		same(t, c.text, results(got, ok), results(c.want, true))
	}
	// From one place to the one before it, 80 times.
	back := []impl.Instr{{Op: impl.OpJump, Arg: 79}}
	for k := range int64(79) {
		back = append(back, impl.Instr{Op: impl.OpJump, Arg: k})
	}
	for _, code := range slices.Concat(manyCodes(2000), validCodes(), [][]impl.Instr{back, back[:79], back[:3]}) {
		got, ok := impl.ReachableCode(code)
		same(t, shown(code), results(got, ok), results(reachAgain(code), true))
	}
	for _, bad := range badCodes() {
		got, ok := impl.ReachableCode(bad)
		fails(t, "ReachableCode", got, ok)
	}
}

func TestStackHeights(t *testing.T) {
	cases := []struct {
		text string
		want []int64
	}{
		{"halt", list(0)}, {"jump 0", list(0)}, {"push 1;halt", list(0, 1)}, {"push 1;push 2;add;halt", list(0, 1, 2, 1)}, {"load 0;test 4;emit 1;jump 0;halt", list(0, 1, 0, 0, 0)},
		{"push 1;load 1;scale 3;get;put;halt", list(0, 1, 2, 2, 2, 0)}, {"push 1;push 1;push 1;push 1;push 1;push 1;halt", list(0, 1, 2, 3, 4, 5, 6)}, {"push 1;push 1;push 1;push 1;push 1;push 1;get;add;add;check;halt", list(0, 1, 2, 3, 4, 5, 6, 6, 5, 4, 3)},
		// What is not reached may have all faults.
		{"halt;add", list(0, -1)}, {"jump 2;put;halt;jump 79", list(0, -1, 0, -1)}, {"halt;push 1;jump 1", list(0, -1, -1)}, {"halt;push 1;jump 0", list(0, -1, -1)}, {"jump 3;push 1;store 0;halt;jump 1", list(0, -1, -1, 0, -1)},
		// Two ways lead to the same height.
		{"load 0;test 4;push 1;jump 5;push 2;store 0;halt", list(0, 1, 0, 1, 0, 1, 0)}, {"push 1;load 0;test 3;halt", list(0, 1, 2, 1)}, {"jump 2;halt;push 1;store 1;jump 0", list(0, -1, 0, 1, 0)}, {"push 1;load 0;test 1;halt", list(0, 1, 2, 1)},
	}
	for _, c := range cases {
		got, ok := impl.StackHeights(instrs(c.text))
		same(t, c.text, results(got, ok), results(c.want, true))
	}
	for _, text := range []string{
		"add;halt", "push 1;add;halt", "store 0;halt", "scale 1;halt", "test 1;halt", "get;halt", "put;halt", "push 1;put;halt", "check;halt",
		"push 1;push 1;push 1;push 1;push 1;push 1;push 1;halt", "push 1;push 1;push 1;push 1;push 1;push 1;load 0;halt", "push 1;jump 0", "push 1;push 1;push 1;jump 2",
		"load 0;test 0", "load 0;test 3;push 1;halt", "load 0;test 5;push 1;store 0;push 1;halt", "push 1;load 0;test 0;halt", "load 0;test 2;push 1;jump 2", "load 0;test 4;push 1;jump 4;halt",
		"emit 1", "push 1", "jump 1", "jump 79", "load 0;test 79;halt", "load 0;test 3;halt", "load 0;test 2", "push -1;test 3;jump 0;jump 4",
	} {
		code := instrs(text)
		same(t, text, impl.ValidCode(code), true)
		got, ok := impl.StackHeights(code)
		fails(t, text, got, ok)
	}
	for _, bad := range badCodes() {
		got, ok := impl.StackHeights(bad)
		fails(t, "StackHeights", got, ok)
	}
}

// TestFaultsOfTheStack has a fault of the stack in code of each operation, reached and not reached.
func TestFaultsOfTheStack(t *testing.T) {
	for _, row := range opRows()[:impl.OpHalt] {
		for height := range 7 {
			code := alike(impl.Instr{Op: impl.OpPush}, height)
			code = append(code, impl.Instr{Op: row.op, Arg: row.low}, impl.Instr{Op: impl.OpHalt})
			if row.name == "jump" || row.name == "test" {
				code[height].Arg = int64(height) + 1
			}
			heights, ok := impl.StackHeights(code)
			if height < row.pops || height-row.pops+row.pushes > 6 {
				fails(t, row.name, heights, ok)
			} else {
				same(t, row.name, results(heights[height:], ok), results(list(int64(height), int64(height-row.pops+row.pushes)), true))
			}
			heights, ok = impl.StackHeights(append(instrs("halt"), code...))
			same(t, row.name, results(heights, ok), results(append(list(0), repeated(-1, len(code))...), true))
		}
	}
	end := alike(impl.Instr{Op: impl.OpEmit}, 80)
	heights, ok := impl.StackHeights(end)
	fails(t, "80 instructions without an end", heights, ok)
	end[79] = impl.Instr{Op: impl.OpHalt}
	heights, ok = impl.StackHeights(end)
	same(t, "80 instructions", results(heights, ok), results(repeated(0, 80), true))
}

func TestStackHeightsAgain(t *testing.T) {
	succeeded := 0
	for _, code := range append(manyCodes(3000), validCodes()...) {
		want, fits := levelsAgain(code)
		got, ok := impl.StackHeights(code)
		if !fits {
			fails(t, shown(code), got, ok)
			continue
		}
		succeeded++
		same(t, shown(code), results(got, ok), results(want, true))
	}
	if succeeded < 1000 || succeeded > 2900 {
		t.Errorf("%d codes have heights", succeeded)
	}
}

func TestLeaders(t *testing.T) {
	cases := []struct {
		text string
		want []int64
	}{
		{"halt", list(0)}, {"emit 1", list(0)}, {"jump 0", list(0)}, {"test 0", list(0)}, {"emit 1;emit 2;emit 3", list(0)}, {"emit 1;emit 2;halt", list(0)}, {"emit 1;halt;emit 2;emit 3", list(0, 2)}, {"halt;halt;halt", list(0, 1, 2)},
		{"load 0;test 4;emit 1;jump 0;halt", list(0, 2, 4)}, {"emit 1;emit 1;jump 1", list(0, 1)}, {"emit 1;emit 1;test 1;emit 1", list(0, 1, 3)}, {"emit 0;jump 79;emit 1", list(0, 2)}, {"emit 0;test 40;emit 1", list(0, 2)}, {"emit 0;emit 1;jump 3", list(0)}, {"emit 0;emit 1;test 3", list(0)},
		{"emit 0;jump 2;emit 1;emit 1", list(0, 2)}, {"emit 0;test 3;emit 1;emit 1", list(0, 2, 3)}, {"halt;emit 1;emit 1;jump 2;push 4;put;get;check", list(0, 1, 2, 4)}, {"add;scale 3;store 2;load 3;get;put;emit 2;check;push 2", list(0)},
	}
	for _, c := range cases {
		got, ok := impl.LeadersOf(instrs(c.text))
		same(t, c.text, results(got, ok), results(c.want, true))
	}
	for _, code := range append(manyCodes(1000), validCodes()...) {
		var want []int64
		for k := range int64(len(code)) {
			place := slices.ContainsFunc(code, func(x impl.Instr) bool { return isIn(x.Op, impl.OpJump, impl.OpTest) && x.Arg == k })
			if k == 0 || place || isIn(code[k-1].Op, impl.OpJump, impl.OpTest, impl.OpHalt) {
				want = append(want, k)
			}
		}
		got, ok := impl.LeadersOf(code)
		same(t, shown(code), results(got, ok), results(want, true))
	}
	for _, bad := range badCodes() {
		got, ok := impl.LeadersOf(bad)
		fails(t, "LeadersOf", got, ok)
	}
}
