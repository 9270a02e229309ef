package tests

import (
	"math"
	"math/rand/v2"
	"slices"
	"strings"
	"testing"

	"loop.example/g01105/impl"
)

// annotated returns the annotated code with a text that has semicolons in place of newlines.
func annotated(t *testing.T, text string) impl.Annotated {
	t.Helper()
	a, ok := impl.ReadAnnotated(strings.ReplaceAll(text, ";", "\n") + "\n")
	if !ok {
		t.Fatalf("no annotated code: %q", text)
	}
	return a
}

// pointsAt returns points without facts.
func pointsAt(places ...int64) []impl.Point {
	var points []impl.Point
	for _, place := range places {
		points = append(points, impl.Point{At: place})
	}
	return points
}

// bare returns the annotated code with a text of code, points without facts, and no other facts.
func bare(text string, places ...int64) impl.Annotated {
	return impl.Annotated{Code: instrs(text), Points: pointsAt(places...)}
}

// counted returns the numbers from 0 on.
func counted(count int64) []int64 {
	var numbers []int64
	for n := range count {
		numbers = append(numbers, n)
	}
	return numbers
}

// badPoints are no points of code of four instructions.
func badPoints() [][]impl.Point {
	list := [][]impl.Point{slices.Repeat(pointsAt(0), 9), slices.Repeat(pointsAt(3), 100000)}
	for _, places := range [][]int64{
		{-1}, {4}, {5}, {80}, {math.MinInt64}, {math.MaxInt64}, {0, 0}, {3, 3}, {1, 0}, {3, 2}, {3, 0}, {0, 1, 1}, {0, 2, 1}, {1, 2, 0}, {2, 1, 3}, {-1, 0}, {0, 4}, {0, 1, 2, 3, 4}, {0, math.MaxInt64}, {math.MaxInt64, math.MinInt64},
	} {
		list = append(list, pointsAt(places...))
	}
	return list
}

// badAnnotated is no annotated code for any function that takes some.
func badAnnotated() []impl.Annotated {
	halts := instrs("halt;halt;halt;halt")
	nine := alike(halts[0], 9)
	list := []impl.Annotated{{Code: nine, Points: pointsAt(counted(9)...)}, {Code: alike(halts[0], 80), Points: pointsAt(80)}}
	for _, code := range badCodes() {
		list = append(list, impl.Annotated{Code: code}, impl.Annotated{Code: code, Points: pointsAt(0)})
	}
	for _, points := range badPoints() {
		list = append(list, impl.Annotated{Code: halts, Points: points})
	}
	for _, facts := range badGiven() {
		points := pointsAt(0, 1, 3)
		points[1].Facts = facts
		list = append(list, impl.Annotated{Pre: facts, Code: halts}, impl.Annotated{Post: facts, Code: halts}, impl.Annotated{Code: halts, Points: points}, impl.Annotated{Code: halts, Points: points[1:2]})
	}
	return list
}

// validAnnotated is annotated code at the limits, and other code.
func validAnnotated() []impl.Annotated {
	wideTerm := fact(-1e6, 1e6, -1e6, 1e6, -1e6)
	six := factsOf(wideTerm, 6)
	halts := alike(impl.Instr{Op: impl.OpHalt}, 80)
	list := []impl.Annotated{
		bare("halt"), bare("halt", 0), bare("jump 0", 0), bare("jump 0"), {Pre: six, Code: halts}, {Post: six, Code: halts}, {Code: halts, Points: pointsAt(79)}, {Code: halts[:8], Points: pointsAt(counted(8)...)},
		{Pre: six, Post: six[:1], Code: halts, Points: []impl.Point{{At: 0, Facts: six}, {At: 1, Facts: six[:1]}, {At: 79, Facts: six[:5]}}}, {Code: alike(impl.Instr{Op: impl.OpScale, Arg: -1e6}, 80), Points: pointsAt(0, 5, 10, 15, 20, 60, 78, 79)},
	}
	full := impl.Annotated{Pre: six, Post: six, Code: alike(impl.Instr{Op: impl.OpPush, Arg: -1e6}, 80)}
	for _, place := range []int64{0, 1, 2, 3, 40, 77, 78, 79} {
		full.Points = append(full.Points, impl.Point{At: place, Facts: six})
	}
	return append(append(list, full), manyAnnotated(200)...)
}

// termCode returns the code of a term.
func termCode(term impl.Term) []impl.Instr {
	code := []impl.Instr{{Op: impl.OpPush, Arg: term.Const}}
	for v, n := range term.Coeffs {
		if n != 0 {
			code = append(code, impl.Instr{Op: impl.OpLoad, Arg: int64(v)})
		}
		if n != 0 && n != 1 {
			code = append(code, impl.Instr{Op: impl.OpScale, Arg: n})
		}
		if n != 0 {
			code = append(code, impl.Instr{Op: impl.OpAdd})
		}
	}
	return code
}

// tamePart returns code that begins and ends with an empty stack. The place of its last instruction, if it has one, is not yet known.
func tamePart(random *rand.Rand) []impl.Instr {
	v := random.Int64N(4)
	one, two := termCode(tame(random)), termCode(tame(random))
	if random.IntN(3) == 0 {
		one = []impl.Instr{{Op: impl.OpLoad, Arg: v}}
	}
	with := func(part []impl.Instr, op, arg int64) []impl.Instr { return append(part, impl.Instr{Op: op, Arg: arg}) }
	switch random.IntN(12) {
	case 0, 1:
		return with(one, impl.OpStore, v)
	case 2:
		return with(with(one, impl.OpGet, 0), impl.OpStore, v)
	case 3:
		return with(slices.Concat(one, two), impl.OpPut, 0)
	case 4:
		return with(one, impl.OpCheck, 0)
	case 5:
		return with(with(slices.Concat(one, two), impl.OpCheck, 0), impl.OpStore, v)
	case 6, 7, 8:
		return with(one, impl.OpTest, 0)
	case 9:
		return with(nil, impl.OpJump, 0)
	}
	return with(nil, impl.OpEmit, v)
}

// tameCode returns code of some parts, whose places are the beginnings of parts, rather of later ones. It tells where each part begins.
func tameCode(random *rand.Rand, count int) ([]impl.Instr, []int64) {
	var code []impl.Instr
	var begins []int64
	for range count {
		begins = append(begins, int64(len(code)))
		code = append(code, tamePart(random)...)
	}
	begins = append(begins, int64(len(code)))
	code = append(code, impl.Instr{Op: impl.OpHalt})
	for k := range code {
		if isIn(code[k].Op, impl.OpJump, impl.OpTest) {
			later := slices.IndexFunc(begins, func(place int64) bool { return place > int64(k) })
			if random.IntN(4) == 0 {
				later = 0
			}
			code[k].Arg = begins[later+random.IntN(min(4, len(begins)-later))]
		}
	}
	return code, begins
}

// closed returns annotated code with points on its open loops, as long as there is an instruction for one.
func closed(random *rand.Rand, a impl.Annotated) impl.Annotated {
	levels, _ := levelsAgain(a.Code)
	for len(a.Points) < 8 {
		open := slices.DeleteFunc(circlesAgain(a), func(k int64) bool { return levels[k] > 0 })
		if len(open) == 0 {
			break
		}
		a.Points = append(a.Points, impl.Point{At: open[random.IntN(len(open))], Facts: tameTerms(random, 2)})
		slices.SortFunc(a.Points, func(p, q impl.Point) int { return int(p.At - q.At) })
	}
	return a
}

// tameAnnotated returns annotated code from a fixed seed, most of which has paths and conditions.
func tameAnnotated(count int) []impl.Annotated {
	random := rand.New(rand.NewPCG(63, 64))
	var list []impl.Annotated
	for i := range count {
		code, begins := tameCode(random, 1+i%12)
		if len(code) > 80 {
			continue
		}
		a := impl.Annotated{Pre: tameTerms(random, 2), Post: tameTerms(random, 2), Code: code}
		for _, place := range begins {
			if random.IntN(12) == 0 && len(a.Points) < 4 {
				a.Points = append(a.Points, impl.Point{At: place, Facts: tameTerms(random, 2)})
			}
		}
		list = append(list, closed(random, a))
	}
	return list
}

// wildAnnotated returns annotated code of any kind from a fixed seed, with points on its open loops or anywhere.
func wildAnnotated(count int) []impl.Annotated {
	random := rand.New(rand.NewPCG(65, 66))
	var list []impl.Annotated
	for i, code := range manyCodes(count) {
		a := impl.Annotated{Pre: randomTerms(random, 6), Post: randomTerms(random, 6), Code: code}
		for k := range code {
			if i%3 == 0 && len(a.Points) < 8 && random.IntN(6) == 0 {
				a.Points = append(a.Points, impl.Point{At: int64(k), Facts: randomTerms(random, 3)})
			}
		}
		if i%3 < 2 {
			a = closed(random, a)
		}
		list = append(list, a)
	}
	return list
}

// waysCode returns code that does nothing in a number of ways, for a place where it begins.
func waysCode(place int64, count int) []impl.Instr {
	end := place + 2*int64(count-1)
	return slices.Repeat([]impl.Instr{{Op: impl.OpLoad}, {Op: impl.OpTest, Arg: end}}, count-1)
}

// withWays returns code that does nothing in some numbers of ways, one after another, behind other code.
func withWays(code []impl.Instr, counts ...int) []impl.Instr {
	code = slices.Clone(code)
	for _, count := range counts {
		code = append(code, waysCode(int64(len(code)), count)...)
	}
	return code
}

// exactWays returns code that does nothing in an exact number of ways, for a place where it begins. Its tests lead to the end for one way more, or to the next instruction for twice as many.
func exactWays(place int64, count int) []impl.Instr {
	var more []bool
	for ; count > 1; count /= 2 {
		if count%2 == 1 {
			more = append(more, true)
		}
		more = append(more, false)
	}
	var code []impl.Instr
	for k, toEnd := range more {
		target := place + 2*int64(k+1)
		if toEnd {
			target = place + 2*int64(len(more))
		}
		code = append(code, impl.Instr{Op: impl.OpLoad}, impl.Instr{Op: impl.OpTest, Arg: target})
	}
	return code
}

// crowdedAnnotated returns annotated code at and beyond the limits of paths, facts, symbols and conditions.
func crowdedAnnotated(count int) []impl.Annotated {
	random := rand.New(rand.NewPCG(67, 68))
	parts := [][]impl.Instr{instrs("push 3;get;store 0"), instrs("load 1;check"), instrs("load 0;get;store 1;emit 1"), instrs("load 1;load 2;put"), instrs("load 0;check;load 1;check;load 3;check")}
	var list []impl.Annotated
	for range count {
		a := impl.Annotated{Pre: tameTerms(random, 6), Post: tameTerms(random, 6)}
		for range 9 {
			switch kind := random.IntN(12); {
			case kind < 7:
				a.Code = withWays(a.Code, 2+random.IntN(3))
			case kind == 11 && len(a.Points) < 8:
				a.Points = append(a.Points, impl.Point{At: int64(len(a.Code)), Facts: tameTerms(random, 6)})
				a.Code = append(a.Code, impl.Instr{Op: impl.OpEmit, Arg: 2})
			default:
				a.Code = append(a.Code, parts[random.IntN(len(parts))]...)
			}
		}
		a.Code = append(a.Code, impl.Instr{Op: impl.OpHalt})
		list = append(list, a)
	}
	return list
}

func manyAnnotated(count int) []impl.Annotated {
	return slices.Concat(tameAnnotated(count/3), wildAnnotated(count/3), crowdedAnnotated(count/3))
}

// areCodePaths requires the texts of the paths of all starts.
func areCodePaths(t *testing.T, a impl.Annotated, want ...string) {
	t.Helper()
	list, ok := impl.PathsOfCode(a)
	same(t, "paths", results(pathTexts(list), ok), results(want, true))
}

// areCodeConditions requires the texts of the conditions of a start.
func areCodeConditions(t *testing.T, a impl.Annotated, start int64, want ...string) {
	t.Helper()
	list, ok := impl.ConditionsAt(a, start)
	same(t, "conditions", results(sequentTexts(list), ok), results(want, true))
}

// codeExists reports whether annotated code has paths, whether it has conditions, and whether each of its starts has. Where it has none, all results must be zero values.
func codeExists(t *testing.T, a impl.Annotated) []bool {
	t.Helper()
	paths, ok := impl.PathsOfCode(a)
	if !ok {
		fails(t, "PathsOfCode", paths, ok)
	}
	conditions, too := impl.ConditionsOfCode(a)
	if !too {
		fails(t, "ConditionsOfCode", conditions, too)
	}
	exist := []bool{ok, too}
	for _, start := range codeStarts(a) {
		conditions, ok := impl.ConditionsAt(a, start)
		if !ok {
			fails(t, "ConditionsAt", conditions, ok)
		}
		exist = append(exist, ok)
	}
	return exist
}
