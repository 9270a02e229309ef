package tests

import (
	"math"
	"slices"
	"testing"

	"loop.example/g01105/impl"
)

func TestConstantsOfChapter4(t *testing.T) {
	same(t, "limits", []int64{impl.MaxConditions, impl.MaxPaths, impl.MaxPathFacts}, []int64{60, 200, 12})
}

func TestExampleOfChapter4(t *testing.T) {
	p := impl.Program{Pre: []impl.Term{alone(1, 1)}, Body: set(0, fact(1, 0, 1)), Post: []impl.Term{fact(-1, 1)}}
	areConditions(t, p, -1, "b;=>b")
	arePaths(t, p, -1, "-1>-1 b;|b+1,b,c,d,|[]")
	paths, ok := impl.PathsOfProgram(p)
	want := impl.Path{From: -1, To: -1, Facts: []impl.Term{alone(1, 1)}, Ends: []impl.Term{fact(1, 0, 1), alone(1, 1), alone(2, 1), alone(3, 1)}}
	same(t, "paths", results(paths, ok), results([]impl.Path{want}, true))
	conditions, ok := impl.ConditionsOfProgram(p)
	same(t, "conditions", results(conditions, ok), results([]impl.Sequent{sequent(alone(1, 1), alone(1, 1))}, true))
}

func TestLoopsOf(t *testing.T) {
	cases := []struct {
		body []impl.Stmt
		want []int64
	}{
		{skip(), nil}, {sequence(emit(1), ways(5)), nil}, {while(alone(0, 1), skip()), []int64{0}}, {while(alone(0, 1), while(alone(0, 1), skip())), []int64{0, 1}},
		{sequence(while(fact(0), skip()), emit(1), while(fact(0), skip())), []int64{1, 5}}, {ifElse(fact(0), while(fact(-1), skip()), while(fact(-1), skip())), []int64{1, 3}},
		{both(while(fact(0), both(skip(), while(fact(0), skip()))), while(fact(0), skip())), []int64{1, 4, 6}},
	}
	for _, c := range cases {
		loops, ok := impl.LoopsOf(programOf(c.body))
		same(t, "LoopsOf", results(loops, ok), results(c.want, true))
	}
	deep := skip()
	for i := range int64(29) {
		deep = while(alone(0, 1), deep)
		loops, ok := impl.LoopsOf(programOf(deep))
		same(t, "LoopsOf", results(int64(len(loops)), loops[i], ok), results(i+1, i, true))
	}
}

func TestStartFacts(t *testing.T) {
	six := []impl.Term{alone(0, 1), fact(-1), fact(0), alone(3, -2), fact(5, 1, 1), fact(1e6, -1e6)}
	for _, given := range [][]impl.Term{nil, {}, six[:1], six[:5], six} {
		loops := both(while(alone(0, 1), while(fact(0), skip(), six[2]), given...), while(fact(0), skip(), six[3], six[3]))
		p := impl.Program{Pre: given, Body: loops, Post: six[1:]}
		for start, want := range [][]impl.Term{given, given, {six[2]}, {six[3], six[3]}} {
			facts, ok := impl.StartFacts(p, int64(start-1))
			same(t, "StartFacts", results(facts, ok), results(want, true))
		}
		p.Pre = nil
		facts, ok := impl.StartFacts(p, -1)
		same(t, "empty Pre", results(facts, ok), results([]impl.Term{}, true))
	}
}

func TestHoldsAt(t *testing.T) {
	p := impl.Program{Pre: []impl.Term{alone(0, 1), fact(-2, 0, 1)}, Body: both(while(fact(0), skip(), fact(0, 1e6, 1e6, 1e6, 1e6)), while(fact(0), skip())), Post: []impl.Term{fact(-1)}}
	cases := []struct {
		start int64
		s     impl.State
		want  bool
	}{
		{-1, state(0, 2), true}, {-1, state(0, 1), false}, {-1, state(-1, 2), false}, {-1, state(-1, 1), false}, {-1, state(1e9, 1e9, -1e9, -1e9), true},
		{0, state(), true}, {0, state(1, 2, 3, -6), true}, {0, state(1, 2, 3, -7), false}, {0, state(1e9, 1e9, 1e9, 1e9), true}, {0, state(-1e9, -1e9, -1e9, -1e9), false},
		{1, state(), true}, {1, state(-1e9, 5, 5, -5), true},
	}
	for _, c := range cases {
		holds, ok := impl.HoldsAt(p, c.start, c.s)
		same(t, shown(c), results(holds, ok), results(c.want, true))
		c.s.Cells = repeated(-1e9, 8)
		holds, ok = impl.HoldsAt(p, c.start, c.s)
		same(t, "other cells", results(holds, ok), results(c.want, true))
	}
	never := impl.Program{Pre: []impl.Term{fact(-1)}, Body: skip()}
	holds, ok := impl.HoldsAt(never, -1, state())
	same(t, "false", results(holds, ok), results(false, true))
}

// TestHoldsAtAgain compares with the exact numbers of the facts.
func TestHoldsAtAgain(t *testing.T) {
	for i, p := range manyPrograms(150) {
		for _, start := range startsAgain(p) {
			s := manyStates()[i%13]
			facts, _ := impl.StartFacts(p, start)
			want := true
			for _, x := range facts {
				want = want && valueOf(x, bigValues(s.Vars)).Sign() >= 0
			}
			holds, ok := impl.HoldsAt(p, start, s)
			same(t, "HoldsAt", results(holds, ok), results(want, true))
		}
	}
}

func TestStatementsOnPaths(t *testing.T) {
	cases := []struct {
		lines []string
		want  string
	}{
		{[]string{"skip"}, "-1>-1 |a,b,c,d,|[]"}, {[]string{"set a 0"}, "-1>-1 |0,b,c,d,|[]"}, {[]string{"set d -3a+2d-1"}, "-1>-1 |a,b,c,-3a+2d-1,|[]"}, {[]string{"set a a"}, "-1>-1 |a,b,c,d,|[]"},
		{[]string{"set a 2a+b", "set b a-b", "set a a+b"}, "-1>-1 |4a+b,2a,c,d,|[]"}, {[]string{"set c a", "set a b", "set b c"}, "-1>-1 |b,a,a,d,|[]"}, {[]string{"set a a-b", "set a a+b-3"}, "-1>-1 |a-3,b,c,d,|[]"},
		{[]string{"set a b", "set a a-b"}, "-1>-1 |0,b,c,d,|[]"}, {[]string{"set a a+1", "set a 2a", "set a -a"}, "-1>-1 |-2a-2,b,c,d,|[]"},
		{[]string{"get b a"}, "-1>-1 |a,e,c,d,|[]"}, {[]string{"get a a", "get a a", "set b a+b"}, "-1>-1 |f,b+f,c,d,|[]"}, {[]string{"get a 0", "set b a", "get a 0", "get d 7", "get a b"}, "-1>-1 |h,e,c,g,|[]"},
		{[]string{"put a b", "get c a", "put a c"}, "-1>-1 |a,b,e,d,|[]"}, {[]string{"put 100 -a"}, "-1>-1 |a,b,c,d,|[]"},
		{[]string{"emit 3", "emit 0", "emit 0", "emit 3", "emit 1"}, "-1>-1 |a,b,c,d,|[3 0 0 3 1]"}, {[]string{"pre a", "pre -1", "pre a", "emit 2"}, "-1>-1 a;-1;a;|a,b,c,d,|[2]"},
		{[]string{"pre d", "assert a", "set a b-1", "assert a+c", "assert a+c"}, "-1>-1 d;a;b+c-1;b+c-1;|b-1,b,c,d,|[]"}, {[]string{"get a 0", "assert a-b", "assert -1"}, "-1>-1 -b+e;-1;|e,b,c,d,|[]"},
	}
	for _, c := range cases {
		p := read(t, c.lines...)
		arePaths(t, p, -1, c.want)
		arePaths(t, impl.Program{Pre: p.Pre, Body: leftSequence(partsAgain(p.Body)...), Post: p.Post}, -1, c.want)
		list, ok := impl.PathsOfProgram(p)
		same(t, "all paths", results(pathTexts(list), ok), results([]string{c.want}, true))
	}
}

func TestOrderOfPaths(t *testing.T) {
	nested := read(t, "if a", "if b", "emit 0", "else", "emit 1", "end", "else", "if c", "emit 2", "else", "emit 3", "end", "end", "if d-1", "skip", "else", "set d a", "end")
	arePaths(t, nested, -1,
		"-1>-1 a;b;d-1;|a,b,c,d,|[0]", "-1>-1 a;b;-d;|a,b,c,a,|[0]", "-1>-1 a;-b-1;d-1;|a,b,c,d,|[1]", "-1>-1 a;-b-1;-d;|a,b,c,a,|[1]",
		"-1>-1 -a-1;c;d-1;|a,b,c,d,|[2]", "-1>-1 -a-1;c;-d;|a,b,c,a,|[2]", "-1>-1 -a-1;-c-1;d-1;|a,b,c,d,|[3]", "-1>-1 -a-1;-c-1;-d;|a,b,c,a,|[3]")
	oneSided := read(t, "set a b", "if 2a-3", "set a 1", "if a", "skip", "else", "skip", "end", "else", "emit 1", "end", "emit 2")
	arePaths(t, oneSided, -1, "-1>-1 2b-3;1;|1,b,c,d,|[2]", "-1>-1 2b-3;-2;|1,b,c,d,|[2]", "-1>-1 -2b+2;|b,b,c,d,|[1 2]")
	inLoop := read(t, "while a", "inv c", "do", "if b", "emit 1", "else", "if d", "emit 2", "else", "emit 3", "end", "end", "end", "if b", "emit 0", "else", "skip", "end")
	arePaths(t, inLoop, 0,
		"0>0 c;a;b;|a,b,c,d,|[1]", "0>0 c;a;-b-1;d;|a,b,c,d,|[2]", "0>0 c;a;-b-1;-d-1;|a,b,c,d,|[3]", "0>-1 c;-a-1;b;|a,b,c,d,|[0]", "0>-1 c;-a-1;-b-1;|a,b,c,d,|[]")
}

func TestWaysDoNotDisturbEachOther(t *testing.T) {
	gets := read(t, "get d 0", "if a", "get b 0", "set a 1", "emit 1", "emit 1", "else", "get c 1", "emit 2", "end", "get d a", "assert b", "emit 3")
	arePaths(t, gets, -1, "-1>-1 a;f;|1,f,c,g,|[1 1 3]", "-1>-1 -a-1;b;|a,b,f,g,|[2 3]")
	areConditions(t, gets, -1, "=>0", "=>7", "a;=>0", "a;=>7", "a;=>1", "a;=>6", "a;=>f", "-a-1;=>1", "-a-1;=>6", "-a-1;=>a", "-a-1;=>-a+7", "-a-1;=>b")
	deep := read(t, "emit 0", "assert c", "if a", "emit 1", "set a 1", "if b", "emit 2", "set b 2", "assert 2", "else", "emit 3", "set b 3", "assert 3", "end", "else", "emit 2", "set a 4", "assert 4", "end", "emit 1")
	arePaths(t, deep, -1, "-1>-1 c;a;b;2;|1,2,c,d,|[0 1 2 1]", "-1>-1 c;a;-b-1;3;|1,3,c,d,|[0 1 3 1]", "-1>-1 c;-a-1;4;|4,b,c,d,|[0 2 1]")
}

func TestPathsOfLoops(t *testing.T) {
	whole := read(t, "pre a", "while a", "inv a+1", "do", "set a a-1", "end", "post -a-1")
	arePaths(t, whole, -1, "-1>0 a;|a,b,c,d,|[]")
	arePaths(t, whole, 0, "0>0 a+1;a;|a-1,b,c,d,|[]", "0>-1 a+1;-a-1;|a,b,c,d,|[]")
	areConditions(t, whole, -1, "a;=>a+1")
	areConditions(t, whole, 0, "a+1;a;=>a", "a+1;-a-1;=>-a-1")

	row := read(t, "pre a", "while b", "inv a-1", "do", "set a a+1", "emit 1", "end", "while c", "inv b", "inv c", "do", "emit 2", "emit 2", "end", "post d")
	arePaths(t, row, -1, "-1>0 a;|a,b,c,d,|[]")
	arePaths(t, row, 0, "0>0 a-1;b;|a+1,b,c,d,|[1]", "0>1 a-1;-b-1;|a,b,c,d,|[]")
	arePaths(t, row, 1, "1>1 b;c;c;|a,b,c,d,|[2 2]", "1>-1 b;c;-c-1;|a,b,c,d,|[]")
	areConditions(t, row, 0, "a-1;b;=>a", "a-1;-b-1;=>b", "a-1;-b-1;=>c")
	areConditions(t, row, 1, "b;c;c;=>b", "b;c;c;=>c", "b;c;-c-1;=>d")

	nested := read(t, "while a", "inv a+1", "do", "while b", "inv b+2", "do", "set b b-1", "end", "set a a-1", "end", "post c")
	arePaths(t, nested, -1, "-1>0 |a,b,c,d,|[]")
	arePaths(t, nested, 0, "0>1 a+1;a;|a,b,c,d,|[]", "0>-1 a+1;-a-1;|a,b,c,d,|[]")
	arePaths(t, nested, 1, "1>1 b+2;b;|a,b-1,c,d,|[]", "1>0 b+2;-b-1;|a-1,b,c,d,|[]")
	areConditions(t, nested, -1, "=>a+1")
	areConditions(t, nested, 0, "a+1;a;=>b+2", "a+1;-a-1;=>c")
	areConditions(t, nested, 1, "b+2;b;=>b+1", "b+2;-b-1;=>a")

	inWays := read(t, "if a", "set b 1", "while b", "do", "while c", "do", "skip", "end", "end", "emit 1", "else", "while d", "inv a", "do", "emit 2", "end", "end", "emit 3", "post b")
	arePaths(t, inWays, -1, "-1>0 a;|a,1,c,d,|[]", "-1>2 -a-1;|a,b,c,d,|[]")
	arePaths(t, inWays, 0, "0>1 b;|a,b,c,d,|[]", "0>-1 -b-1;|a,b,c,d,|[1 3]")
	arePaths(t, inWays, 1, "1>1 c;|a,b,c,d,|[]", "1>0 -c-1;|a,b,c,d,|[]")
	arePaths(t, inWays, 2, "2>2 a;d;|a,b,c,d,|[2]", "2>-1 a;-d-1;|a,b,c,d,|[3]")
	areConditions(t, inWays, -1, "-a-1;=>a")
	areConditions(t, inWays, 0, "-b-1;=>b")
	areConditions(t, inWays, 1)
	areConditions(t, inWays, 2, "a;d;=>a", "a;-d-1;=>b")
}

// TestStartsOfChapter4 tries the starts of programs with 0 to 3 loops, and others.
func TestStartsOfChapter4(t *testing.T) {
	for loops := range int64(4) {
		p := programOf(sequence(append(slices.Repeat([][]impl.Stmt{while(alone(0, 1), skip())}, int(loops)), skip())...))
		for _, start := range append(oddNumbers(), -3, -2, -1, 0, 1, 2, 3, 4, math.MaxInt64) {
			want := start >= -1 && start < loops
			one, two := exist(t, p, start)
			same(t, shown(start), []bool{one, two}, []bool{want, want})
			facts, ok := impl.StartFacts(p, start)
			holds, too := impl.HoldsAt(p, start, state())
			same(t, shown(start), []bool{ok, holds, too}, []bool{want, want, want})
			if !want {
				fails(t, "StartFacts", facts, ok)
			}
		}
	}
}

// TestPathsOfAllStarts requires that the results for a program are those of its starts, in order, unless there are too many.
func TestPathsOfAllStarts(t *testing.T) {
	for _, p := range slices.Concat(manyPrograms(300), tamePrograms(300), crowdedPrograms(300)) {
		var paths []impl.Path
		var conditions []impl.Sequent
		one, two := true, true
		for _, start := range startsAgain(p) {
			list, ok := impl.PathsFrom(p, start)
			paths, one = append(paths, list...), one && ok
			sequents, ok := impl.ConditionsFrom(p, start)
			conditions, two = append(conditions, sequents...), two && ok
		}
		one = one && len(paths) <= 200
		two = two && one && len(conditions) <= 60
		gotPaths, gotOne := impl.PathsOfProgram(p)
		gotConditions, gotTwo := impl.ConditionsOfProgram(p)
		same(t, "which exist", []bool{gotOne, gotTwo}, []bool{one, two})
		if one {
			same(t, "PathsOfProgram", results(gotPaths), results(paths))
		}
		if two {
			same(t, "ConditionsOfProgram", results(gotConditions), results(conditions))
		}
	}
}

func TestBadArgumentsOfChapter4(t *testing.T) {
	try := func(p impl.Program, start int64, s impl.State) {
		t.Helper()
		holds, ok := impl.HoldsAt(p, start, s)
		fails(t, "HoldsAt", holds, ok)
	}
	for _, p := range badPrograms() {
		loops, ok := impl.LoopsOf(p)
		fails(t, "LoopsOf", loops, ok)
		one, two := allExist(t, p)
		same(t, "all starts", []bool{one, two}, []bool{false, false})
		for start := range int64(4) {
			facts, ok := impl.StartFacts(p, start-2)
			fails(t, "StartFacts", facts, ok)
			try(p, start-2, state())
			one, two := exist(t, p, start-2)
			same(t, shown(p), []bool{one, two}, []bool{false, false})
		}
	}
	loop := programOf(while(fact(0), skip()))
	for _, s := range badStates() {
		try(loop, -1, s)
		try(loop, 0, s)
	}
}
