package tests

import (
	"slices"
	"strings"
	"testing"

	"loop.example/g01105/impl"
)

func TestExamplesOfChapter8(t *testing.T) {
	a := annotated(t, "push -1;check;halt")
	areCodeConditions(t, a, -1, "=>-1")
	all, ok := impl.ConditionsOfCode(a)
	same(t, "conditions", results(sequentTexts(all), ok), results([]string{"=>-1"}, true))
	open, ok := impl.OpenLoops(bare("jump 0"))
	same(t, "jump 0", results(open, ok), results(list(0), true))
	open, ok = impl.OpenLoops(bare("jump 0", 0))
	same(t, "jump 0 with a point", results(open, ok), results(list(), true))
}

// TestInstructionsOnPaths looks at what each instruction does on a path from the entry to OpHalt.
func TestInstructionsOnPaths(t *testing.T) {
	cases := []struct{ text, want string }{
		{"halt", "|a,b,c,d,|[]"}, {"push 7;store 0;halt", "|7,b,c,d,|[]"}, {"push -1000000;store 3;halt", "|a,b,c,-1000000,|[]"}, {"push 0;store 2;halt", "|a,b,0,d,|[]"}, {"load 1;store 0;halt", "|b,b,c,d,|[]"},
		{"load 0;load 1;store 0;store 1;halt", "|b,a,c,d,|[]"}, {"load 0;load 1;load 2;store 0;store 1;store 2;halt", "|c,b,a,d,|[]"}, {"load 0;push 3;add;store 0;halt", "|a+3,b,c,d,|[]"}, {"push 5;load 2;add;load 2;add;store 1;halt", "|a,2c+5,c,d,|[]"},
		{"load 0;scale -1;store 0;load 0;scale 3;store 1;halt", "|-a,-3a,c,d,|[]"}, {"load 0;scale 0;store 0;halt", "|0,b,c,d,|[]"}, {"load 0;load 1;scale -2;add;store 3;halt", "|a,b,c,a-2b,|[]"}, {"load 0;load 0;scale -1;add;store 0;halt", "|0,b,c,d,|[]"}, {"push 1;load 0;load 1;scale 2;add;store 0;store 1;halt", "|a+2b,1,c,d,|[]"},
		{"load 0;get;store 1;halt", "|a,e,c,d,|[]"}, {"load 0;get;get;store 0;load 0;get;store 3;halt", "|f,b,c,g,|[]"}, {"push 3;get;load 0;add;store 0;halt", "|a+e,b,c,d,|[]"}, {"push 1;push 2;get;add;store 0;push 4;get;store 1;halt", "|e+1,f,c,d,|[]"}, {"push 0;get;push 1;get;store 0;store 1;halt", "|f,e,c,d,|[]"},
		{"load 0;load 1;put;halt", "|a,b,c,d,|[]"}, {"load 0;load 1;load 2;put;store 3;halt", "|a,b,c,a,|[]"}, {"emit 3;emit 0;emit 0;halt", "|a,b,c,d,|[3 0 0]"}, {"load 0;check;push 1;load 1;check;store 0;halt", "a;b;|1,b,c,d,|[]"}, {"push -5;check;halt", "-5;|a,b,c,d,|[]"},
		{"pre d;pre -1;load 0;check;halt", "d;-1;a;|a,b,c,d,|[]"}, {"jump 2;halt;emit 1;jump 1", "|a,b,c,d,|[1]"}, {"jump 2;emit 1;emit 2;halt", "|a,b,c,d,|[2]"}, {"load 0;jump 3;store 1;store 2;halt", "|a,b,a,d,|[]"},
		// A stack that is not empty at OpHalt.
		{"push 1;halt", "|a,b,c,d,|[]"}, {"load 0;load 1;load 2;load 3;push 1;push 2;halt", "|a,b,c,d,|[]"}, {"load 0;load 0;load 0;load 0;load 0;load 0;add;add;add;add;add;store 1;halt", "|a,6a,c,d,|[]"}, {"load 0;load 0;load 0;load 0;load 0;load 0;scale 2;store 1;halt", "|a,2a,c,d,|[]"},
		// A value that a variable had keeps it on the stack.
		{"load 0;push 1;store 0;store 1;halt", "|1,a,c,d,|[]"}, {"load 0;load 0;get;store 0;store 1;halt", "|e,a,c,d,|[]"},
	}
	for _, c := range cases {
		areCodePaths(t, annotated(t, c.text), "-1>-1 "+c.want)
	}
}

// TestManyEvents has as many events on a path as code has room for.
func TestManyEvents(t *testing.T) {
	events := repeated(3, 79)
	paths, ok := impl.PathsOfCode(halting(alike(impl.Instr{Op: impl.OpEmit, Arg: 3}, 79)))
	same(t, "79 events", results(len(paths), ok, paths[0].Events), results(1, true, events))
	paths, ok = impl.PathsOfCode(halting(alike(impl.Instr{Op: impl.OpEmit, Arg: 3}, 79), 40))
	same(t, "40 and 39 events", results(len(paths), ok, paths[0].Events, paths[1].Events), results(2, true, events[:40], events[40:]))
}

// TestGoalsOfCode looks at the goals of the instructions: their order, their terms, and their facts.
func TestGoalsOfCode(t *testing.T) {
	cases := []struct {
		text string
		want []string
	}{
		{"halt", nil}, {"push 1;store 0;load 1;scale 2;emit 1;halt", nil}, {"pre a;halt", nil}, {"load 0;test 2;halt", nil},
		{"load 0;get;store 1;halt", []string{"=>a", "=>-a+7"}}, {"load 0;scale 2;push 3;add;get;halt", []string{"=>2a+3", "=>-2a+4"}}, {"push 8;get;halt", []string{"=>8", "=>-1"}}, {"load 0;get;get;get;halt", []string{"=>a", "=>-a+7", "=>e", "=>-e+7", "=>f", "=>-f+7"}},
		// OpPut takes a term and then an index, so the index is pushed first.
		{"load 0;load 1;put;halt", []string{"=>a", "=>-a+7"}}, {"push 3;push 100;put;halt", []string{"=>3", "=>4"}}, {"push 100;push 3;put;halt", []string{"=>100", "=>-93"}}, {"load 2;load 0;load 1;put;get;halt", []string{"=>a", "=>-a+7", "=>c", "=>-c+7"}}, {"push -1;push 0;put;push 0;push -1;put;halt", []string{"=>-1", "=>8", "=>0", "=>7"}},
		{"load 0;check;halt", []string{"=>a"}}, {"load 0;check;load 0;check;load 1;check;halt", []string{"=>a", "a;=>a", "a;a;=>b"}}, {"push -1;check;push 2;check;halt", []string{"=>-1", "-1;=>2"}}, {"load 0;load 1;check;check;halt", []string{"=>b", "b;=>a"}},
		{"pre c;pre d;load 0;check;load 1;get;halt", []string{"c;d;=>a", "c;d;a;=>b", "c;d;a;=>-b+7"}}, {"load 0;get;check;push 0;load 0;put;halt", []string{"=>a", "=>-a+7", "=>e", "e;=>0", "e;=>7"}},
		{"post a;post -1;post a;halt", []string{"=>a", "=>-1", "=>a"}}, {"pre c;post 3a+b;post 0;load 0;scale 2;push -1;add;store 0;halt", []string{"c;=>6a+b-3", "c;=>0"}}, {"post a;load 0;check;load 1;store 0;halt", []string{"=>a", "a;=>b"}}, {"post a;push 0;get;store 0;halt", []string{"=>0", "=>7", "=>e"}},
		{"pre b;load 0;push 2;store 0;check;point;at a-1;at 2a+b;halt", []string{"b;=>a", "b;a;=>1", "b;a;=>b+4"}},
	}
	for _, c := range cases {
		areCodeConditions(t, annotated(t, c.text), -1, c.want...)
	}
}

// TestWaysOfOpTest has tests whose target is anywhere: the first way is always that to the next instruction.
func TestWaysOfOpTest(t *testing.T) {
	areCodePaths(t, annotated(t, "load 0;test 4;emit 1;halt;emit 2;halt"), "-1>-1 a;|a,b,c,d,|[1]", "-1>-1 -a-1;|a,b,c,d,|[2]")
	areCodePaths(t, annotated(t, "jump 4;emit 2;halt;halt;load 0;push -3;add;test 1;emit 1;halt"), "-1>-1 a-3;|a,b,c,d,|[1]", "-1>-1 -a+2;|a,b,c,d,|[2]")
	areCodePaths(t, annotated(t, "load 0;test 2;emit 1;halt"), "-1>-1 a;|a,b,c,d,|[1]", "-1>-1 -a-1;|a,b,c,d,|[1]")
	areCodePaths(t, annotated(t, "load 0;test 2;point;at c;emit 1;halt"), "-1>0 a;|a,b,c,d,|[]", "-1>0 -a-1;|a,b,c,d,|[]", "0>-1 c;|a,b,c,d,|[1]")
	areCodePaths(t, annotated(t, "load 0;test 3;halt;point;emit 1;halt"), "-1>-1 a;|a,b,c,d,|[]", "-1>0 -a-1;|a,b,c,d,|[]", "0>-1 |a,b,c,d,|[1]")
	areCodePaths(t, annotated(t, "load 0;test 3;point;halt;point;emit 1;halt"), "-1>0 a;|a,b,c,d,|[]", "-1>1 -a-1;|a,b,c,d,|[]", "0>-1 |a,b,c,d,|[]", "1>-1 |a,b,c,d,|[1]")
	areCodePaths(t, annotated(t, "point;at a;load 0;load 0;store 1;test 0;halt"), "-1>0 |a,b,c,d,|[]", "0>-1 a;a;|a,a,c,d,|[]", "0>0 a;-a-1;|a,a,c,d,|[]")
	// What is left on the stack goes both ways.
	areCodePaths(t, annotated(t, "load 1;load 2;load 0;test 6;store 3;halt;add;store 3;halt"), "-1>-1 a;|a,b,c,c,|[]", "-1>-1 -a-1;|a,b,c,b+c,|[]")
	areCodePaths(t, annotated(t, "push 1;push 2;load 0;test 6;push 3;jump 7;push 4;add;load 1;test 12;add;halt;store 0;store 1;halt"), "-1>-1 a;b;|a,b,c,d,|[]", "-1>-1 a;-b-1;|5,1,c,d,|[]", "-1>-1 -a-1;b;|a,b,c,d,|[]", "-1>-1 -a-1;-b-1;|6,1,c,d,|[]")
	nested := annotated(t, "load 0;test 8;load 1;test 6;emit 0;jump 13;emit 1;jump 13;load 2;test 12;emit 2;jump 13;emit 3;load 3;push -1;add;test 18;halt;load 0;store 3;halt")
	areCodePaths(t, nested,
		"-1>-1 a;b;d-1;|a,b,c,d,|[0]", "-1>-1 a;b;-d;|a,b,c,a,|[0]", "-1>-1 a;-b-1;d-1;|a,b,c,d,|[1]", "-1>-1 a;-b-1;-d;|a,b,c,a,|[1]",
		"-1>-1 -a-1;c;d-1;|a,b,c,d,|[2]", "-1>-1 -a-1;c;-d;|a,b,c,a,|[2]", "-1>-1 -a-1;-c-1;d-1;|a,b,c,d,|[3]", "-1>-1 -a-1;-c-1;-d;|a,b,c,a,|[3]")
}

func TestOrderOfCodeConditions(t *testing.T) {
	ways := annotated(t, "post d;load 0;check;load 1;test 8;push 1;load 2;put;jump 11;load 2;get;store 3;load 1;check;halt")
	areCodeConditions(t, ways, -1, "=>a", "a;b;=>1", "a;b;=>6", "a;b;=>b", "a;b;b;=>d", "a;-b-1;=>c", "a;-b-1;=>-c+7", "a;-b-1;=>b", "a;-b-1;b;=>e")
	// Symbols that one way uses are not used on the other one.
	gets := annotated(t, "push 0;get;store 3;load 0;test 11;push 1;get;store 1;push 1;store 0;jump 14;push 2;get;store 2;load 0;get;store 3;halt")
	areCodePaths(t, gets, "-1>-1 a;|1,f,c,g,|[]", "-1>-1 -a-1;|a,b,f,g,|[]")
	// All conditions of a start come before those of the next one.
	starts := annotated(t, "pre a;post c;load 0;check;point;at b;emit 1;load 1;get;store 1;point;at d;load 3;test 2;halt")
	areCodeConditions(t, starts, -1, "a;=>a", "a;a;=>b")
	areCodeConditions(t, starts, 0, "b;=>b", "b;=>-b+7", "b;=>d")
	areCodeConditions(t, starts, 1, "d;d;=>c", "d;-d-1;=>b")
	all, ok := impl.ConditionsOfCode(starts)
	same(t, "all", results(sequentTexts(all), ok), results([]string{"a;=>a", "a;a;=>b", "b;=>b", "b;=>-b+7", "b;=>d", "d;d;=>c", "d;-d-1;=>b"}, true))
	areCodePaths(t, starts, "-1>0 a;a;|a,b,c,d,|[]", "0>1 b;|a,e,c,d,|[1]", "1>-1 d;d;|a,b,c,d,|[]", "1>0 d;-d-1;|a,b,c,d,|[]")
}

func TestPathsBetweenPoints(t *testing.T) {
	// The entry ends at once where the first instruction has a point, and the point does not.
	first := annotated(t, "pre a;post c;point;at b;at -a;emit 1;halt")
	areCodePaths(t, first, "-1>0 a;|a,b,c,d,|[]", "0>-1 b;-a;|a,b,c,d,|[1]")
	areCodeConditions(t, first, -1, "a;=>b", "a;=>-a")
	areCodeConditions(t, first, 0, "b;-a;=>c")
	areCodePaths(t, bare("jump 0", 0), "-1>0 |a,b,c,d,|[]", "0>0 |a,b,c,d,|[]")
	areCodePaths(t, bare("halt", 0), "-1>0 |a,b,c,d,|[]", "0>-1 |a,b,c,d,|[]")
	// Points one after another.
	areCodePaths(t, annotated(t, "emit 0;point;at a;emit 1;point;at b;emit 2;point;at c;halt"), "-1>0 |a,b,c,d,|[0]", "0>1 a;|a,b,c,d,|[1]", "1>2 b;|a,b,c,d,|[2]", "2>-1 c;|a,b,c,d,|[]")
	loop := annotated(t, "pre b;post -a-1;load 1;store 0;point;at a+1;load 0;test 9;load 0;push -1;add;store 0;jump 2;halt")
	areCodePaths(t, loop, "-1>0 b;|b,b,c,d,|[]", "0>0 a+1;a;|a-1,b,c,d,|[]", "0>-1 a+1;-a-1;|a,b,c,d,|[]")
	areCodeConditions(t, loop, -1, "b;=>b+1")
	areCodeConditions(t, loop, 0, "a+1;a;=>a", "a+1;-a-1;=>-a-1")
	// Paths that come to the point where they have started, to one before it, and to one behind it.
	three := annotated(t, "point;at a;load 0;test 6;point;at b;load 1;test 0;load 2;test 2;point;at c;load 3;test 2;emit 3;halt")
	areCodePaths(t, three, "-1>0 |a,b,c,d,|[]", "0>1 a;a;|a,b,c,d,|[]", "0>2 a;-a-1;|a,b,c,d,|[]", "1>2 b;b;c;|a,b,c,d,|[]", "1>1 b;b;-c-1;|a,b,c,d,|[]", "1>0 b;-b-1;|a,b,c,d,|[]", "2>-1 c;d;|a,b,c,d,|[3]", "2>1 c;-d-1;|a,b,c,d,|[]")
	areCodeConditions(t, three, 1, "b;b;c;=>c", "b;b;-c-1;=>b", "b;-b-1;=>a")
}

// TestPointsThatAreNotReached has starts that no run comes to. Their paths count, and so do their faults.
func TestPointsThatAreNotReached(t *testing.T) {
	for _, a := range []impl.Annotated{annotated(t, "post c;halt;point;at a;load 0;store 2;halt"), annotated(t, "post c;jump 4;point;at a;load 0;store 2;halt;halt")} {
		areCodePaths(t, a, "-1>-1 |a,b,c,d,|[]", "0>-1 a;|a,b,a,d,|[]")
		areCodeConditions(t, a, 0, "a;=>a")
		all, ok := impl.ConditionsOfCode(a)
		same(t, "conditions", results(sequentTexts(all), ok), results([]string{"=>c", "a;=>a"}, true))
	}
	areCodePaths(t, annotated(t, "point;halt;point;jump 0;point;jump 2"), "-1>0 |a,b,c,d,|[]", "0>-1 |a,b,c,d,|[]", "1>0 |a,b,c,d,|[]", "2>2 |a,b,c,d,|[]")
	// What can be reached neither from the entry nor from a point has no paths.
	areCodePaths(t, annotated(t, "halt;add;put;emit 1"), "-1>-1 |a,b,c,d,|[]")
	areCodePaths(t, annotated(t, "halt;push 1;store 0;jump 79;point;halt"), "-1>-1 |a,b,c,d,|[]", "0>-1 |a,b,c,d,|[]")
}

// TestFaultsOfThePath has paths from a point that cannot be reached, some of which pop too much, leave too much, or go beyond the end. Heights do not tell this.
func TestFaultsOfThePath(t *testing.T) {
	full := strings.Repeat("push 1;", 6)
	cases := []struct {
		text string
		ok   bool
	}{
		{"halt;point;halt", true}, {"halt;point;add;halt", false}, {"halt;point;push 1;add;halt", false}, {"halt;point;push 1;push 1;add;halt", true}, {"halt;point;store 0;halt", false}, {"halt;point;scale 2;halt", false}, {"halt;point;get;halt", false}, {"halt;point;put;halt", false}, {"halt;point;push 1;put;halt", false}, {"halt;point;push 1;push 1;put;halt", true}, {"halt;point;check;halt", false}, {"halt;point;test 0;halt", false},
		{"halt;point;" + full + "halt", true}, {"halt;point;" + full + "push 1;halt", false}, {"halt;point;" + full + "load 1;halt", false}, {"halt;point;" + full + "scale 2;get;add;halt", true}, {"halt;point;" + full + "emit 1;halt", true}, {"halt;point;" + full + "add;push 1;halt", true},
		{"halt;point;emit 1", false}, {"halt;point;jump 2", false}, {"halt;point;jump 79", false}, {"halt;point;load 0;test 79;halt", false}, {"halt;point;load 0;test 4;halt", false}, {"halt;point;load 0;test 3;halt", true}, {"halt;point;load 0;test 0", false}, {"halt;point;push 1;store 0", false},
		// A stack that is not empty at a point, reached from a point alone.
		{"halt;point;push 1;jump 1", false}, {"halt;point;push 1;point;halt", false}, {"halt;point;push 1;store 0;point;halt", true}, {"halt;point;push 1;jump 0", true}, {"point;halt;point;push 1;jump 0", false}, {"halt;point;load 0;load 0;test 5;halt;point;halt", false},
		// One of two ways has the fault.
		{"halt;point;load 0;test 5;push 1;halt;add;halt", false}, {"halt;point;load 0;test 5;add;halt;push 1;halt", false}, {"halt;point;load 0;test 5;push 1;halt;push 1;halt", true},
		// Ways with different heights meet where only a point leads.
		{"halt;point;load 0;test 4;push 1;halt", true}, {"halt;point;push 1;load 0;test 5;push 1;store 0;halt", true}, {"halt;point;push 1;load 0;test 5;push 2;store 0;halt", true}, {"halt;point;load 0;test 4;push 1;store 0;halt", false},
	}
	for _, c := range cases {
		a := annotated(t, c.text)
		exist := codeExists(t, a)
		same(t, c.text, exist[:2], []bool{c.ok, c.ok})
		same(t, c.text, exist[2], true)
		same(t, c.text, slices.Contains(exist[2:], false), !c.ok)
	}
}

// codeLimit tells for annotated code what codeExists finds.
type codeLimit struct {
	what string
	a    impl.Annotated
	want []bool
}

func (c codeLimit) check(t *testing.T) {
	t.Helper()
	same(t, c.what, codeExists(t, c.a), c.want)
}

// halting returns annotated code of some code, OpHalt, and no facts.
func halting(code []impl.Instr, places ...int64) impl.Annotated {
	return impl.Annotated{Code: append(slices.Clone(code), impl.Instr{Op: impl.OpHalt}), Points: pointsAt(places...)}
}

func TestMaxPathsOfCode(t *testing.T) {
	good, bad := []bool{true, true, true}, []bool{false, false, false}
	two := func(first, second int) impl.Annotated {
		code := exactWays(0, first)
		return halting(append(code, exactWays(int64(len(code)), second)...), int64(len(code)))
	}
	cases := []codeLimit{
		{"200 paths", halting(exactWays(0, 200)), good}, {"201 paths", halting(exactWays(0, 201)), bad}, {"202 paths", halting(exactWays(0, 202)), bad}, {"216 paths", halting(withWays(nil, 3, 3, 3, 2, 2, 2)), bad}, {"1 path", halting(nil), good},
		{"1 and 199 paths", halting(exactWays(0, 199), 0), append(good, true)}, {"1 and 200 paths", halting(exactWays(0, 200), 0), []bool{false, false, true, true}}, {"1 and 201 paths", halting(exactWays(0, 201), 0), []bool{false, false, true, false}},
		{"100 and 100 paths", two(100, 100), append(good, true)}, {"100 and 101 paths", two(100, 101), []bool{false, false, true, true}}, {"101 and 100 paths", two(101, 100), []bool{false, false, true, true}}, {"201 paths and 1", two(201, 1), []bool{false, false, false, true}},
	}
	for _, c := range cases {
		c.check(t)
	}
	for _, count := range []int{1, 2, 3, 7, 50, 192, 199, 200} {
		paths, ok := impl.PathsOfCode(halting(exactWays(0, count)))
		same(t, "paths", results(len(paths), ok), results(count, true))
	}
	paths, ok := impl.PathsOfCode(two(101, 99))
	same(t, "paths", results(len(paths), ok), results(200, true))
}

func TestMaxPathFactsOfCode(t *testing.T) {
	good, bad := []bool{true, true, true}, []bool{false, false, false}
	six := factsOf(alone(1, 1), 6)
	checks := func(count int) []impl.Instr { return slices.Repeat(instrs("load 2;check"), count) }
	given := func(pre, at []impl.Term, code []impl.Instr) impl.Annotated {
		a := halting(code)
		a.Pre, a.Points = pre, []impl.Point{{At: 2, Facts: at}}
		return a
	}
	cases := []codeLimit{
		{"12 checks", halting(checks(12)), good}, {"13 checks", halting(checks(13)), bad}, {"12 tests on one way", halting(withWays(nil, 13)), good}, {"13 tests on one way", halting(withWays(nil, 14)), bad},
		{"9 checks and 3 tests", halting(withWays(checks(9), 2, 2, 2)), good}, {"10 checks and 3 tests", halting(withWays(checks(10), 2, 2, 2)), bad}, {"12 checks and 1 test", halting(withWays(checks(12), 2)), bad}, {"1 check and 12 tests", halting(withWays(checks(1), 13)), bad},
		{"facts at a point and 6 checks", given(nil, six, checks(7)), append(good, true)}, {"facts at a point and 7 checks", given(nil, six, checks(8)), append(bad[:2:2], true, false)}, {"5 facts at a point and 7 checks", given(nil, six[:5], checks(8)), append(good, true)},
		{"facts of Pre and 6 tests", impl.Annotated{Pre: six, Code: halting(withWays(nil, 7)).Code}, good}, {"facts of Pre and 7 tests", impl.Annotated{Pre: six, Code: halting(withWays(nil, 8)).Code}, bad}, {"facts of Pre and 6 checks", impl.Annotated{Pre: six, Post: six, Code: halting(checks(6)).Code}, good}, {"facts of Pre and 7 checks", impl.Annotated{Pre: six, Code: halting(checks(7)).Code}, bad},
		{"12 checks on each side of a point", halting(checks(24), 24), append(good, true)}, {"13 checks before a point", halting(checks(25), 26), append(bad, true)}, {"13 checks behind a point", halting(checks(25), 24), append(bad[:2:2], true, false)}, {"facts at the end of a path do not count", given(six, six, checks(1)), append(good, true)},
	}
	for _, c := range cases {
		c.check(t)
	}
	full := annotated(t, "pre a;pre a;pre a;pre a;pre a;pre a;post c;load 1;check;load 1;check;load 1;check;load 1;check;load 1;check;load 1;check;halt")
	conditions, ok := impl.ConditionsAt(full, -1)
	same(t, "12 facts", results(sequentTexts(conditions[6:]), ok), results([]string{"a;a;a;a;a;a;b;b;b;b;b;b;=>c"}, true))
}

func TestMaxSymbolsOfCode(t *testing.T) {
	good, bad := []bool{true, true, true}, []bool{false, false, false}
	gets := func(count int) []impl.Instr { return slices.Repeat(instrs("push 0;get;store 0"), count) }
	stacked := slices.Concat(slices.Repeat(instrs("push 0;get"), 6), instrs("store 0;store 1;store 2;store 3"))
	cases := []codeLimit{
		{"6 symbols", halting(gets(6)), good}, {"7 symbols", halting(gets(7)), bad}, {"6 symbols on the stack", halting(stacked), good}, {"7 symbols, 6 on the stack", halting(slices.Concat(stacked, instrs("get"))), bad}, {"7 symbols, all overwritten", halting(slices.Concat(gets(6), instrs("push 1;get;get"))), bad},
		{"6 on each side of a point", halting(gets(12), 18), append(good, true)}, {"7 before a point", halting(gets(8), 21), append(bad, true)}, {"7 behind a point", halting(gets(8), 3), append(bad[:2:2], true, false)},
		{"6 on the first way", halting(slices.Concat(instrs("load 0;test 17"), gets(5))), good}, {"7 on the first way", halting(slices.Concat(instrs("load 0;test 23"), gets(7))), bad}, {"7 on the second way", halting(slices.Concat(instrs("load 0;test 3;halt"), gets(7))), bad}, {"6 on each way", halting(slices.Concat(instrs("load 0;test 21"), gets(6), instrs("halt"), gets(6))), good},
	}
	for _, c := range cases {
		c.check(t)
	}
	areCodePaths(t, halting(stacked), "-1>-1 |j,i,h,g,|[]")
}

func TestMaxConditionsOfCode(t *testing.T) {
	good, many := []bool{true, true, true}, []bool{true, false, false}
	six := factsOf(alone(1, 1), 6)
	// posted returns code with some checks and ways, a promise of six facts at its end, and points with these facts.
	posted := func(checks, ways int, places ...int64) impl.Annotated {
		code := slices.Repeat(instrs("load 2;check"), checks)
		a := halting(append(code, exactWays(int64(len(code)), ways)...))
		a.Post = six
		for _, place := range places {
			a.Points = append(a.Points, impl.Point{At: place, Facts: six})
		}
		return a
	}
	endOf := func(ways int) int64 { return int64(len(exactWays(0, ways))) }
	cases := []codeLimit{
		{"60 at the end", posted(0, 10), good}, {"66 at the end", posted(0, 11), many}, {"1 and 60", posted(1, 10), many}, {"6 and 54", posted(6, 9), good}, {"7 and 54", posted(7, 9), many},
		{"6 and 54 at two starts", posted(0, 9, 0), append(good, true)}, {"6 and 1 and 54 at two starts", posted(1, 9, 0), []bool{true, false, true, true}}, {"1 and 6 and 54 at two starts", posted(1, 9, 2), []bool{true, false, true, true}}, {"6 and 60 at two starts", posted(0, 10, 0), []bool{true, false, true, true}}, {"6 and 66 at two starts", posted(0, 11, 0), []bool{true, false, true, false}},
		{"54 and 6 at two starts", posted(0, 9, endOf(9)), append(good, true)}, {"60 and 6 at two starts", posted(0, 10, endOf(10)), []bool{true, false, true, true}}, {"66 and 6 at two starts", posted(0, 11, endOf(11)), []bool{true, false, false, true}},
	}
	for _, c := range cases {
		c.check(t)
	}
	all, ok := impl.ConditionsOfCode(posted(0, 9, 0))
	same(t, "conditions", results(len(all), ok), results(60, true))
}

// TestGreatTermsOfCode has terms at the limit of valid ones, and beyond it.
func TestGreatTermsOfCode(t *testing.T) {
	cases := []struct {
		text string
		ok   bool
	}{
		{"push 1000000;store 0", true}, {"push 1000000;push 1;add", false}, {"push -1000000;push -1;add", false}, {"push 1000000;push -1;add;push 1;add", true}, {"push 999999;push 1;add", true}, {"push 500000;push 500000;add;push 500000;add", false},
		{"push 1000;scale 1000", true}, {"push 1001;scale 1000", false}, {"push -1000;scale 1000", true}, {"push -1001;scale 1000", false}, {"push 1000000;scale 1000000", false}, {"push 1000000;scale -1", true}, {"push 1000000;scale 2;scale 0", false},
		{"load 0;scale 1000000", true}, {"load 0;scale -1000000;scale -1", true}, {"load 0;scale 1000;scale 1001", false}, {"load 0;scale 1000000;load 0;add", false}, {"load 0;scale 1000000;load 0;scale -1;add", true}, {"load 0;scale 1000000;load 1;add", true}, {"load 3;scale -1000000;load 3;scale -1;add", false},
		// The sum of both is valid again, but not what arises before it.
		{"load 0;scale 1000000;load 0;add;load 0;scale -1;add", false}, {"load 0;scale -1;load 0;add;load 0;scale 1000000;add", true}, {"push 1000000;push 1;push -1;add;add", true},
		// The opposite of a test arises, and both goals of an index, but no goal of the number that a cell becomes.
		{"push 1000000;test 2", false}, {"push 999999;test 2", true}, {"push -1000000;test 2", true}, {"load 0;scale 1000000;test 3", true}, {"load 0;scale -1000000;test 3", true},
		{"push 1000000;get", true}, {"push -999993;get", true}, {"push -999994;get", false}, {"push -1000000;get", false}, {"push 1000000;push 0;put", true}, {"push -999993;push 0;put", true}, {"push -999994;push 0;put", false}, {"push 0;push 1000000;put", true}, {"push 0;push -1000000;put", true}, {"load 0;scale -1000000;get", true},
		{"push 1000000;check", true}, {"push -1000000;check", true},
	}
	for _, c := range cases {
		a := annotated(t, c.text+";halt")
		same(t, c.text, codeExists(t, a), repeatedBool(c.ok, 3))
		// Behind a halt, it counts for a point alone.
		behind, ok := impl.JoinCode(a.Code[:len(a.Code)-1], instrs("halt"))
		same(t, c.text, ok, true)
		moved, _ := impl.ShiftCode(behind, 1)
		far := impl.Annotated{Code: slices.Concat(instrs("halt"), moved), Points: pointsAt(1)}
		same(t, c.text, codeExists(t, far), []bool{c.ok, c.ok, true, c.ok})
	}
	for _, c := range []struct {
		text string
		ok   bool
	}{
		{"post a;push 1000000;store 0;halt", true}, {"post a+1;push 1000000;store 0;halt", false}, {"post 2a;load 0;scale 500000;store 0;halt", true}, {"post 2a;load 0;scale 500001;store 0;halt", false}, {"post a;post b;post 1000000a;push 2;store 0;halt", false},
		{"push 1000000;store 0;point;at a;halt", true}, {"push 1000000;store 0;point;at b;at a+1;halt", false}, {"pre 1000000;halt", true}, {"pre 1000000;post -1000000;point;at 1000000a;at -1000000;halt", true},
	} {
		same(t, c.text, codeExists(t, annotated(t, c.text))[:3], repeatedBool(c.ok, 3))
	}
}

func repeatedBool(b bool, count int) []bool {
	return slices.Repeat([]bool{b}, count)
}

// TestStartsOfChapter8 tries the starts of code with 0 to 8 points, and others.
func TestStartsOfChapter8(t *testing.T) {
	for count := range int64(9) {
		a := impl.Annotated{Code: alike(impl.Instr{Op: impl.OpHalt}, 10), Points: pointsAt(counted(count)...), Post: factsOf(fact(0), 1)}
		for _, start := range append(oddNumbers(), -3, -2, -1, 0, 1, 2, 3, 4, 5, 6, 7, 8, 9) {
			list, ok := impl.ConditionsAt(a, start)
			if start < -1 || start >= count {
				fails(t, shown(start), list, ok)
			} else if start == -1 && count > 0 {
				areCodeConditions(t, a, start)
			} else {
				areCodeConditions(t, a, start, "=>0")
			}
		}
	}
}

// TestConditionsOfAllStarts requires that the conditions of code are those of its starts, in order, unless there are too many.
func TestConditionsOfAllStarts(t *testing.T) {
	for _, a := range manyAnnotated(1500) {
		var conditions []impl.Sequent
		exist := codeExists(t, a)
		for _, start := range codeStarts(a) {
			list, _ := impl.ConditionsAt(a, start)
			conditions = append(conditions, list...)
		}
		same(t, shown(a), exist[1], exist[0] && !slices.Contains(exist[2:], false) && len(conditions) <= 60)
		if all, ok := impl.ConditionsOfCode(a); ok {
			same(t, "conditions", results(all), results(conditions))
		}
	}
}
