package tests

import (
	"slices"
	"testing"

	"loop.example/g01105/impl"
)

func TestOrderOfConditions(t *testing.T) {
	nested := read(t, "pre d", "put a 0", "if a", "assert b", "if b", "assert c", "else", "put c a", "end", "else", "if c", "get b b", "else", "skip", "end", "end", "assert b", "post a", "post b-1")
	areConditions(t, nested, -1,
		"d;=>a", "d;=>-a+7", "d;a;=>b", "d;a;b;b;=>c", "d;a;b;b;c;=>b", "d;a;b;b;c;b;=>a", "d;a;b;b;c;b;=>b-1",
		"d;a;b;-b-1;=>c", "d;a;b;-b-1;=>-c+7", "d;a;b;-b-1;=>b", "d;a;b;-b-1;b;=>a", "d;a;b;-b-1;b;=>b-1",
		"d;-a-1;c;=>b", "d;-a-1;c;=>-b+7", "d;-a-1;c;=>e", "d;-a-1;c;e;=>a", "d;-a-1;c;e;=>e-1",
		"d;-a-1;-c-1;=>b", "d;-a-1;-c-1;b;=>a", "d;-a-1;-c-1;b;=>b-1")
	loops := read(t, "pre a", "assert b", "while a", "inv b", "do", "put a b", "if c", "skip", "else", "while c", "inv d", "inv c", "do", "skip", "end", "end", "end", "post a+1")
	all := []string{"a;=>b", "a;b;=>b", "b;a;=>a", "b;a;=>-a+7", "b;a;c;=>b", "b;a;-c-1;=>d", "b;a;-c-1;=>c", "b;-a-1;=>a+1", "d;c;c;=>d", "d;c;c;=>c", "d;c;-c-1;=>b"}
	list, ok := impl.ConditionsOfProgram(loops)
	same(t, "all starts", results(sequentTexts(list), ok), results(all, true))
	areConditions(t, loops, -1, all[:2]...)
	areConditions(t, loops, 0, all[2:8]...)
	areConditions(t, loops, 1, all[8:]...)
}

// TestGoals looks at the goals of each statement: their order, their terms, and their facts.
func TestGoals(t *testing.T) {
	cases := []struct {
		lines []string
		want  []string
	}{
		{[]string{"skip"}, nil}, {[]string{"emit 1", "set a 5"}, nil}, {[]string{"if a", "skip", "else", "skip", "end"}, nil}, {[]string{"pre a", "skip"}, nil},
		{[]string{"get b 2a-b+3"}, []string{"=>2a-b+3", "=>-2a+b+4"}}, {[]string{"put 2a-b+3 9"}, []string{"=>2a-b+3", "=>-2a+b+4"}}, {[]string{"get a a", "put a a"}, []string{"=>a", "=>-a+7", "=>e", "=>-e+7"}},
		{[]string{"get b 8"}, []string{"=>8", "=>-1"}}, {[]string{"put -1 0"}, []string{"=>-1", "=>8"}}, {[]string{"set a 3", "put a 0", "put a 0"}, []string{"=>3", "=>4", "=>3", "=>4"}},
		{[]string{"assert a"}, []string{"=>a"}}, {[]string{"assert a", "assert a", "assert b"}, []string{"=>a", "a;=>a", "a;a;=>b"}}, {[]string{"assert -1", "get a 1", "assert a"}, []string{"=>-1", "-1;=>1", "-1;=>6", "-1;=>e"}},
		{[]string{"set a b", "assert a-c", "set a 1", "assert a"}, []string{"=>b-c", "b-c;=>1"}}, {[]string{"if a", "set a -1", "assert a", "else", "skip", "end"}, []string{"a;=>-1"}},
		{[]string{"skip", "post a", "post -1", "post a"}, []string{"=>a", "=>-1", "=>a"}}, {[]string{"pre c", "set a 2a-1", "post 3a+b", "post 0"}, []string{"c;=>6a+b-3", "c;=>0"}},
		{[]string{"pre a", "pre a", "assert b", "post c"}, []string{"a;a;=>b", "a;a;b;=>c"}}, {[]string{"if a", "assert a", "else", "assert b", "end"}, []string{"a;=>a", "-a-1;=>b"}},
		{[]string{"pre b", "set a c", "while a", "inv a-1", "inv 2a+b", "do", "skip", "end", "post a"}, []string{"b;=>c-1", "b;=>b+2c"}},
	}
	for _, c := range cases {
		areConditions(t, read(t, c.lines...), -1, c.want...)
	}
}

// limitCase tells for a program whether the paths and the conditions of all starts exist, and, for the starts in order, the same two.
type limitCase struct {
	what string
	p    impl.Program
	want []bool
}

func (c limitCase) check(t *testing.T) {
	t.Helper()
	one, two := allExist(t, c.p)
	got := []bool{one, two}
	for _, start := range startsAgain(c.p) {
		one, two := exist(t, c.p, start)
		got = append(got, one, two)
	}
	same(t, c.what, got, c.want)
}

func limited(what string, body []impl.Stmt, want ...bool) limitCase {
	return limitCase{what, programOf(body), want}
}

func times(count int, part []impl.Stmt) [][]impl.Stmt {
	return slices.Repeat([][]impl.Stmt{part}, count)
}

// TestMaxPaths tries the numbers of paths next to the limit that programs with MaxStmts elements can have: no start has 194 to 215, and no program 195 to 215.
func TestMaxPaths(t *testing.T) {
	most := sequence(append(times(6, ways(2)), ways(3))...)
	more := sequence(append(times(3, ways(2)), times(3, ways(3))...)...)
	limited("192 paths", most, true, true, true, true).check(t)
	limited("1 and 193 paths", while(alone(0, 1), most), true, true, true, true, true, true).check(t)
	limited("216 paths", more, false, false, false, false).check(t)
	limited("1 and 217 paths", while(alone(0, 1), more), false, false, true, true, false, false).check(t)
	parted := sequence(append([][]impl.Stmt{choose(skip(), skip(), while(alone(0, 1), skip()))}, times(4, ways(3))...)...)
	limited("163 and 82 paths", parted, false, false, true, true, true, true).check(t)
	for count, p := range map[int]impl.Program{194: programOf(while(alone(0, 1), most)), 192: programOf(most)} {
		paths, _ := impl.PathsOfProgram(p)
		same(t, "paths", len(paths), count)
	}
	paths, _ := impl.PathsFrom(programOf(parted), -1)
	same(t, "paths", len(paths), 163)
	paths, _ = impl.PathsFrom(programOf(while(alone(0, 1), most)), 0)
	same(t, "paths", len(paths), 193)
}

func TestMaxPathFacts(t *testing.T) {
	six := factsOf(alone(1, 1), 6)
	asserts := func(count int) []impl.Stmt { return sequence(times(count, assert(alone(2, 1)))...) }
	cases := []limitCase{
		limited("12 assertions", asserts(12), true, true, true, true), limited("13 assertions", asserts(13), false, false, false, false),
		limited("12 tests on one way", ways(13), true, true, true, true), limited("13 tests on one way", ways(14), false, false, false, false),
		limited("6 tests", sequence(times(6, ways(2))...), true, true, true, true), limited("9 and 3", both(asserts(9), sequence(times(3, ways(2))...)), true, true, true, true), limited("10 and 3", both(asserts(10), sequence(times(3, ways(2))...)), false, false, false, false),
		limited("on the first way", ifElse(fact(0), asserts(12), skip()), false, false, false, false), limited("on the second way", ifElse(fact(0), skip(), asserts(12)), false, false, false, false), limited("on both ways", ifElse(fact(0), asserts(6), asserts(6)), true, true, true, true),
		limited("11 on the second way", ifElse(fact(0), skip(), asserts(11)), true, true, true, true), limited("on another path", both(asserts(12), while(fact(0), asserts(1))), true, true, true, true, true, true),
		limited("in a loop", while(fact(0), asserts(5), six...), true, true, true, true, true, true), limited("too many in a loop", while(fact(0), asserts(6), six...), false, false, true, true, false, false),
		limited("behind a loop", both(while(fact(0), skip(), six...), asserts(5)), true, true, true, true, true, true), limited("too many behind a loop", both(while(fact(0), skip(), six...), asserts(6)), false, false, true, true, false, false),
		limited("before a loop", both(asserts(13), while(fact(0), skip())), false, false, false, false, true, true),
		{"6 and 6", impl.Program{Pre: six, Body: asserts(6), Post: six}, []bool{true, true, true, true}}, {"6 and 7", impl.Program{Pre: six, Body: asserts(7), Post: six}, []bool{false, false, false, false}},
		{"6 and 6 tests", impl.Program{Pre: six, Body: ways(7)}, []bool{true, true, true, true}}, {"6 and 7 tests", impl.Program{Pre: six, Body: ways(8)}, []bool{false, false, false, false}},
	}
	for _, c := range cases {
		c.check(t)
	}
	full := read(t, "pre a", "pre a", "pre a", "pre a", "pre a", "pre a", "assert b", "assert b", "assert b", "assert b", "assert b", "assert b", "post c")
	list, ok := impl.ConditionsFrom(full, -1)
	same(t, "12 facts", results(sequentTexts(list[6:]), ok), results([]string{"a;a;a;a;a;a;b;b;b;b;b;b;=>c"}, true))
}

func TestMaxSymbols(t *testing.T) {
	gets := func(count int) []impl.Stmt { return sequence(times(count, get(0, fact(0)))...) }
	cases := []limitCase{
		limited("6 symbols", gets(6), true, true, true, true), limited("7 symbols", gets(7), false, false, false, false),
		limited("on both ways", ifElse(fact(0), gets(6), gets(6)), true, true, true, true), limited("behind both ways", both(ifElse(fact(0), gets(6), gets(6)), gets(1)), false, false, false, false),
		limited("on the first way", both(ifElse(fact(0), gets(6), gets(5)), gets(1)), false, false, false, false), limited("on the second way", both(ifElse(fact(0), gets(5), gets(6)), gets(1)), false, false, false, false), limited("6 on each path", both(ifElse(fact(0), gets(5), gets(5)), gets(1)), true, true, true, true),
		limited("on each path of a loop", both(gets(6), both(while(fact(0), gets(6)), skip())), true, true, true, true, true, true), limited("in a loop", while(fact(0), gets(7)), false, false, true, true, false, false),
		limited("behind a loop", both(while(fact(0), skip()), gets(7)), false, false, true, true, false, false), limited("before a loop", both(gets(7), while(fact(0), skip())), false, false, false, false, true, true),
	}
	for _, c := range cases {
		c.check(t)
	}
	arePaths(t, programOf(sequence(get(3, fact(0)), get(2, fact(0)), get(1, fact(0)), get(0, fact(0)), get(3, fact(0)), get(2, fact(0)))), -1, "-1>-1 |h,g,j,i,|[]")
}

func TestMaxConditions(t *testing.T) {
	six := factsOf(alone(1, 1), 6)
	assertion := assert(alone(2, 1))
	loop := func(one, two int) []impl.Stmt { return while(alone(0, 1), both(ways(one), ways(two)), six...) }
	cases := []limitCase{
		{"60 at the ends", impl.Program{Body: ways(10), Post: six}, []bool{true, true, true, true}}, {"66 at the ends", impl.Program{Body: ways(11), Post: six}, []bool{true, false, true, false}},
		{"1 and 60", impl.Program{Body: both(assertion, ways(10)), Post: six}, []bool{true, false, true, false}}, {"10 and 50", impl.Program{Body: both(ways(10), assertion), Post: six[:5]}, []bool{true, true, true, true}},
		{"1 and 60 at the last end", impl.Program{Body: choose(append(times(9, skip()), assertion)...), Post: six}, []bool{true, false, true, false}},
		{"6, 48 and 6", impl.Program{Body: loop(2, 4), Post: six}, []bool{true, true, true, true, true, true}}, {"7, 48 and 6", impl.Program{Body: both(assertion, loop(2, 4)), Post: six}, []bool{true, false, true, true, true, true}},
		{"6, 54 and 6", impl.Program{Body: loop(3, 3), Post: six}, []bool{true, false, true, true, true, true}}, {"6, 60 and 6", impl.Program{Body: loop(2, 5), Post: six}, []bool{true, false, true, true, true, false}},
		{"66 and 12", impl.Program{Body: both(ways(11), while(alone(0, 1), skip(), six...)), Post: six}, []bool{true, false, true, false, true, true}},
	}
	for _, c := range cases {
		c.check(t)
	}
}

// TestGreatTerms has terms at the limit of valid ones, and beyond it. The starts of loops can have paths where the entry has none.
func TestGreatTerms(t *testing.T) {
	good, bad := []bool{true, true, true, true}, []bool{false, false, false, false}
	fromLoop, fromEntry := []bool{false, false, false, false, true, true}, []bool{false, false, true, true, false, false}
	cases := []struct {
		lines []string
		want  []bool
	}{
		{[]string{"set a 1000000", "set b a"}, good}, {[]string{"set a 1000000", "set b a+1"}, bad}, {[]string{"set a -1000000", "set b -a"}, good}, {[]string{"set a -1000000", "set b a-1"}, bad}, {[]string{"set a 999999", "set b a+1"}, good}, {[]string{"set a 1000000", "set a 2a"}, bad},
		{[]string{"set a 1000000b", "set c a-b"}, good}, {[]string{"set a 1000000b", "set c a+b"}, bad}, {[]string{"set a -1000000b", "set c a-b"}, bad}, {[]string{"set a 1000b", "set a 1000a"}, good}, {[]string{"set a 1000b", "set a 1001a"}, bad},
		{[]string{"set a 600000b", "set c 2a-600000b"}, good}, {[]string{"set a 1000000b", "set c 1000000a", "skip"}, bad}, {[]string{"set a 1000000b", "set c 1000000b", "set a 1000000a-1000000c"}, good}, {[]string{"set a b+1", "set a 1000000a"}, good}, {[]string{"set a b+1", "set a 1000000a+1"}, bad},
		{[]string{"set a 1000000", "assert a"}, good}, {[]string{"set a 1000000", "assert a+1"}, bad}, {[]string{"set a -1000000", "assert a"}, good}, {[]string{"set a -1000000", "assert a-1"}, bad}, {[]string{"assert 1000000"}, good},
		{[]string{"if 1000000", "skip", "else", "skip", "end"}, bad}, {[]string{"if 999999", "skip", "else", "skip", "end"}, good}, {[]string{"if -1000000", "skip", "else", "skip", "end"}, good}, {[]string{"set a 1000000", "if a", "skip", "else", "skip", "end"}, bad},
		{[]string{"set a 1000000", "if a-1", "skip", "else", "skip", "end"}, good}, {[]string{"set a 1000000", "if a+1", "skip", "else", "skip", "end"}, bad}, {[]string{"set a -1000000", "if a-1", "skip", "else", "skip", "end"}, bad}, {[]string{"if 1000000a-1000000d", "skip", "else", "skip", "end"}, good},
		{[]string{"if -1", "if 1000000", "skip", "else", "skip", "end", "else", "skip", "end"}, bad}, {[]string{"if 1", "skip", "else", "if 1000000", "skip", "else", "skip", "end", "end"}, bad},
		{[]string{"get a 1000000"}, good}, {[]string{"get a -999993"}, good}, {[]string{"get a -999994"}, bad}, {[]string{"put 1000000 0"}, good}, {[]string{"put -999993 0"}, good}, {[]string{"put -999994 0"}, bad}, {[]string{"put -1000000a 0"}, good},
		{[]string{"set b 1000000", "get a b+1"}, bad}, {[]string{"set b 1000000", "put b+1 0"}, bad}, {[]string{"set b -1000000", "put b+7 0"}, good}, {[]string{"set b -1000000", "put b+6 0"}, bad}, {[]string{"set b 1000000a", "get c a+b"}, bad},
		{[]string{"set a 1000000", "put 0 a+1"}, good}, {[]string{"set a 1000000b", "put 0 1000000a"}, good},
		{[]string{"set a 1000000", "post a"}, good}, {[]string{"set a 1000000", "post a+1"}, bad}, {[]string{"set a -1000000", "post -a"}, good}, {[]string{"set a -1000000", "post b", "post a-1"}, bad}, {[]string{"skip", "post 1000000"}, good}, {[]string{"pre 1000000", "skip"}, good},
		{[]string{"while 1000000", "do", "skip", "end"}, fromEntry}, {[]string{"while 999999", "do", "skip", "end"}, append(good, true, true)}, {[]string{"while a", "inv a", "do", "set a 1000000", "set a a+1", "end"}, fromEntry}, {[]string{"while a", "inv 1000000a", "do", "set a a+1", "end"}, append(good, true, true)},
		{[]string{"while a", "inv 1000000a", "do", "set a 2a", "end"}, fromEntry}, {[]string{"set a 1000000", "while a-1", "inv a+1", "do", "skip", "end"}, fromLoop}, {[]string{"set a 1000000", "while a+1", "inv a", "do", "skip", "end"}, append(good, true, true)},
		{[]string{"set a 1000000", "set a a+1", "while a", "do", "skip", "end"}, fromLoop}, {[]string{"while a", "do", "skip", "end", "set a 2a", "post 1000000a"}, fromEntry},
	}
	for _, c := range cases {
		limitCase{shown(c.lines), read(t, c.lines...), c.want}.check(t)
	}
	arePaths(t, read(t, "set a 600000b", "set c 2a-600000b"), -1, "-1>-1 |600000b,b,600000b,d,|[]")
	areConditions(t, read(t, "get a 1000000", "put -999993 0"), -1, "=>1000000", "=>-999993", "=>-999993", "=>1000000")
}

// TestConditionsAreSequents requires that conditions are valid sequents. They are so wherever the paths exist, since MaxPathFacts is less than MaxFacts; so paths without conditions have too many of them.
func TestConditionsAreSequents(t *testing.T) {
	for _, p := range slices.Concat(manyPrograms(200), tamePrograms(200), crowdedPrograms(400)) {
		list, ok := impl.ConditionsOfProgram(p)
		for _, s := range list {
			same(t, "a valid sequent", impl.ValidSequent(s), true)
		}
		_, found, many, few := pathsAgain(p, followAgain, startsAgain(p)...)
		same(t, "conditions", results(ok, len(list)), results(many && few, len(found)))
	}
}
