package tests

import (
	"math"
	"slices"
	"strings"
	"testing"

	"loop.example/g01105/impl"
)

func TestCompileTerm(t *testing.T) {
	for term, want := range map[string]string{
		"2a-1": "push -1;load 0;scale 2;add", "0": "push 0", "7": "push 7", "-1000000": "push -1000000", "1000000": "push 1000000",
		"a": "push 0;load 0;add", "b": "push 0;load 1;add", "d": "push 0;load 3;add", "-a": "push 0;load 0;scale -1;add", "2c+5": "push 5;load 2;scale 2;add", "-1000000d": "push 0;load 3;scale -1000000;add", "1000000a-3": "push -3;load 0;scale 1000000;add",
		"a+b": "push 0;load 0;add;load 1;add", "a-b+c-d": "push 0;load 0;add;load 1;scale -1;add;load 2;add;load 3;scale -1;add", "a+d+1": "push 1;load 0;add;load 3;add", "3b-2d": "push 0;load 1;scale 3;add;load 3;scale -2;add",
	} {
		code, ok := impl.CompileTerm(termOf(term))
		same(t, term, results(code, ok), results(instrs(want), true))
	}
	wide := fact(-1e6, 1e6, -1e6, 1e6, -1e6)
	code, ok := impl.CompileTerm(wide)
	same(t, "MaxVars Coeffs", results(len(code), ok), results(13, true))
	for _, bad := range append(badTerms(), fact(0, 0, 0, 0, 0, 1), fact(1, 1, 1, 1, 1, 1), alone(9, 1), fact(0, 1, 0)) {
		code, ok := impl.CompileTerm(bad)
		fails(t, shown(bad), code, ok)
	}
	compiled := 0
	for _, term := range validTerms() {
		code, ok := impl.CompileTerm(term)
		if len(term.Coeffs) > 4 {
			fails(t, shown(term), code, ok)
			continue
		}
		same(t, shown(term), results(code, ok), results(termCode(term), true))
		compiled++
	}
	if compiled < 20 {
		t.Errorf("only %d terms", compiled)
	}
}

// TestCodeOfTermsIsTheirNumber runs the code of terms.
func TestCodeOfTermsIsTheirNumber(t *testing.T) {
	terms := append(validTerms(), fact(1e6, 1e6, 1e6, 1e6, 1e6), fact(-1e6, -1e6, -1e6, -1e6, -1e6))
	for _, term := range terms {
		code, ok := impl.CompileTerm(term)
		if !ok {
			continue
		}
		for _, s := range manyStates() {
			c := configOf(s, 0)
			for range code {
				next, outcome, ok := impl.StepCode(code, c)
				same(t, shown(term), results(outcome, ok), results(int64(impl.OutDone), true))
				c = next
			}
			same(t, shown(term), c.Stack, []int64{valueOf(term, bigValues(s.Vars)).Int64()})
		}
	}
}

// compiles requires the text of the annotated code of a program, and the places of its elements.
func compiles(t *testing.T, p impl.Program, want string, places ...int64) {
	t.Helper()
	a, ok := impl.CompileProgram(p)
	if !ok {
		t.Errorf("%s: no code", shown(p))
		return
	}
	same(t, shown(p), textOfCode(t, a), want)
	got, ok := impl.PlacesOf(p)
	same(t, want, results(got, ok), results(places, true))
	length, ok := impl.LengthOf(p)
	same(t, want, results(length, ok), results(int64(len(a.Code)), true))
}

// originsAre requires the elements of all instructions of a program, and that there are no others.
func originsAre(t *testing.T, p impl.Program, want ...int64) {
	t.Helper()
	var origins []int64
	for k := range want {
		origin, ok := impl.OriginOf(p, int64(k))
		if !ok {
			t.Fatalf("%s: no origin of %d", shown(p), k)
		}
		origins = append(origins, origin)
	}
	same(t, "origins", origins, want)
	for _, k := range []int64{math.MinInt64, -2, -1, int64(len(want)), int64(len(want)) + 1, math.MaxInt64} {
		origin, ok := impl.OriginOf(p, k)
		fails(t, "OriginOf", origin, ok)
	}
}

// compileCase is a body with its code, the places of its elements, and the elements of its instructions.
type compileCase struct {
	body            []impl.Stmt
	text            string
	places, origins []int64
}

func (c compileCase) check(t *testing.T) {
	t.Helper()
	compiles(t, programOf(c.body), c.text, c.places...)
	originsAre(t, programOf(c.body), c.origins...)
}

func TestCodeOfEachStatement(t *testing.T) {
	for _, c := range []compileCase{
		{skip(), "halt", []int64{0}, []int64{1}},
		{set(2, fact(3, 1)), "push 3;load 0;add;store 2;halt", []int64{0}, []int64{0, 0, 0, 0, 1}},
		{set(0, alone(1, 1)), "push 0;load 1;add;store 0;halt", []int64{0}, []int64{0, 0, 0, 0, 1}},
		{get(3, fact(7)), "push 7;get;store 3;halt", []int64{0}, []int64{0, 0, 0, 1}},
		{put(fact(1), alone(0, 1)), "push 1;push 0;load 0;add;put;halt", []int64{0}, []int64{0, 0, 0, 0, 0, 1}},
		{emit(2), "emit 2;halt", []int64{0}, []int64{0, 1}},
		{assert(fact(-1, 0, 2)), "push -1;load 1;scale 2;add;check;halt", []int64{0}, []int64{0, 0, 0, 0, 0, 1}},
		{both(emit(1), emit(2)), "emit 1;emit 2;halt", []int64{0, 0, 1}, []int64{1, 2, 3}},
		{ifElse(fact(4), emit(1), emit(2)), "push 4;test 4;emit 1;jump 5;emit 2;halt", []int64{0, 2, 4}, []int64{0, 0, 1, 0, 2, 3}},
		{while(fact(4), emit(1), fact(5), alone(0, 1)), "point;at 5;at a;push 4;test 4;emit 1;jump 0;halt", []int64{0, 2}, []int64{0, 0, 1, 0, 2}},
	} {
		c.check(t)
	}
	given := impl.Program{Pre: []impl.Term{fact(1), alone(0, 1)}, Body: skip(), Post: []impl.Term{alone(1, -1), fact(0), fact(0)}}
	compiles(t, given, "pre 1;pre a;post -b;post 0;post 0;halt", 0)
}

func TestStatementsWithoutCode(t *testing.T) {
	for _, c := range []compileCase{
		{both(skip(), skip()), "halt", []int64{0, 0, 0}, []int64{3}},
		{both(skip(), emit(1)), "emit 1;halt", []int64{0, 0, 0}, []int64{2, 3}},
		{both(emit(1), skip()), "emit 1;halt", []int64{0, 0, 1}, []int64{1, 3}},
		{sequence(skip(), emit(1), skip(), emit(2), skip()), "emit 1;emit 2;halt", []int64{0, 0, 0, 0, 1, 1, 1, 1, 2}, []int64{3, 7, 9}},
		{leftSequence(skip(), emit(1), skip(), emit(2)), "emit 1;emit 2;halt", []int64{0, 0, 0, 0, 0, 1, 1}, []int64{4, 6, 7}},
		{ifElse(fact(4), skip(), skip()), "push 4;test 3;jump 3;halt", []int64{0, 2, 3}, []int64{0, 0, 0, 3}},
		{ifElse(fact(4), skip(), emit(1)), "push 4;test 3;jump 4;emit 1;halt", []int64{0, 2, 3}, []int64{0, 0, 0, 2, 3}},
		{ifElse(fact(4), emit(1), skip()), "push 4;test 4;emit 1;jump 4;halt", []int64{0, 2, 4}, []int64{0, 0, 1, 0, 3}},
		{ifElse(fact(4), both(skip(), skip()), both(emit(1), skip())), "push 4;test 3;jump 4;emit 1;halt", []int64{0, 2, 2, 2, 3, 3, 4}, []int64{0, 0, 0, 5, 7}},
		{while(fact(4), skip()), "point;push 4;test 3;jump 0;halt", []int64{0, 2}, []int64{0, 0, 0, 2}},
		{while(fact(4), both(skip(), skip())), "point;push 4;test 3;jump 0;halt", []int64{0, 2, 2, 2}, []int64{0, 0, 0, 4}},
		{both(while(fact(4), skip()), skip()), "point;push 4;test 3;jump 0;halt", []int64{0, 0, 2, 3}, []int64{1, 1, 1, 4}},
	} {
		c.check(t)
	}
}

func TestLoops(t *testing.T) {
	example := read(t, "while a", "inv a+1", "do", "set a a-1", "end")
	compiles(t, example, "point;at a+1;push 0;load 0;add;test 9;push -1;load 0;add;store 0;jump 0;halt", 0, 4)
	originsAre(t, example, 0, 0, 0, 0, 1, 1, 1, 1, 0, 2)
	one, two := while(fact(4), emit(1), fact(6)), while(fact(5), emit(2), fact(7))
	behind := programOf(both(one, two))
	compiles(t, behind, "point;at 6;push 4;test 4;emit 1;jump 0;point;at 7;push 5;test 8;emit 2;jump 4;halt", 0, 0, 2, 4, 6)
	originsAre(t, behind, 1, 1, 2, 1, 3, 3, 4, 3, 5)
	inner := programOf(while(fact(3), one, fact(8)))
	compiles(t, inner, "point;at 8;push 3;test 7;point;at 6;push 4;test 6;emit 1;jump 2;jump 0;halt", 0, 2, 4)
	originsAre(t, inner, 0, 0, 1, 1, 2, 1, 0, 3)
	last := programOf(while(fact(3), both(emit(3), one)))
	compiles(t, last, "point;push 3;test 8;emit 3;point;at 6;push 4;test 7;emit 1;jump 3;jump 0;halt", 0, 2, 2, 3, 5)
	chosen := programOf(ifElse(alone(0, 1), one, two))
	compiles(t, chosen, "push 0;load 0;add;test 9;point;at 6;push 4;test 8;emit 1;jump 4;jump 13;point;at 7;push 5;test 13;emit 2;jump 9;halt", 0, 4, 6, 9, 11)
	originsAre(t, chosen, 0, 0, 0, 0, 1, 1, 2, 1, 0, 3, 3, 4, 3, 5)
	either := programOf(while(fact(3), ifElse(fact(4), emit(1), emit(2))))
	compiles(t, either, "point;push 3;test 8;push 4;test 6;emit 1;jump 7;emit 2;jump 0;halt", 0, 2, 4, 6)
	originsAre(t, either, 0, 0, 1, 1, 2, 1, 3, 0, 4)
}

// TestElementsOfOneInstruction has elements of one instruction in elements that have others, too.
func TestElementsOfOneInstruction(t *testing.T) {
	p := programOf(both(both(emit(0), both(skip(), emit(1))), ifElse(fact(2), both(emit(2), skip()), both(skip(), emit(3)))))
	compiles(t, p, "emit 0;emit 1;push 2;test 6;emit 2;jump 7;emit 3;halt", 0, 0, 0, 1, 1, 1, 2, 4, 4, 5, 6, 6, 6)
	originsAre(t, p, 2, 5, 6, 6, 8, 6, 12, 13)
}

// longCode returns a program whose code has a number of instructions, 5 or more.
func longCode(length int) impl.Program {
	var parts [][]impl.Stmt
	// OpHalt is one of them, and a last statement has 4 to 7.
	for length--; length >= 18; length -= 14 {
		parts = append(parts, set(0, fact(1, 2, 3, 4, 5)))
	}
	for ; length > 7; length -= 4 {
		parts = append(parts, assert(alone(0, 1)))
	}
	sums := map[int]impl.Term{4: alone(0, 1), 5: alone(0, 2), 6: fact(0, 1, 1), 7: fact(0, 1, 2)}
	return programOf(sequence(append(parts, set(1, sums[length]))...))
}

// exactly requires that the code of a program has a length, and that it is annotated code or not.
func exactly(t *testing.T, p impl.Program, length int64, exists bool) {
	t.Helper()
	what := shown(p)
	got, ok := impl.LengthOf(p)
	same(t, what, results(got, ok), results(length, true))
	a, ok := impl.CompileProgram(p)
	same(t, what, ok, exists)
	if exists {
		same(t, what, len(a.Code), int(length))
	} else {
		fails(t, what, a, ok)
	}
	places, ok := impl.PlacesOf(p)
	same(t, what, results(places, ok), results(placesAgain(p.Body, 0), true))
	originsAre(t, p, originsAgain(p.Body)...)
	last, ok := impl.OriginOf(p, length-1)
	same(t, what, results(last, ok), results(int64(len(p.Body)), true))
}

func TestMaxCodeOfPrograms(t *testing.T) {
	for length := int64(5); length <= 120; length++ {
		exactly(t, longCode(int(length)), length, length <= 80)
	}
	// The last place is that of OpHalt, 79 or 80, as the end of StmtIf and StmtWhile.
	front := longCode(75).Body
	for _, c := range []struct {
		behind []impl.Stmt
		more   int64
	}{
		{ifElse(fact(1), emit(1), emit(2)), 5}, {ifElse(fact(1), emit(1), both(emit(2), emit(3))), 6}, {both(while(fact(1), emit(1)), emit(2)), 5}, {both(emit(2), while(fact(1), emit(1))), 5}, {both(while(fact(1), emit(1)), both(emit(2), emit(3))), 6}, {while(fact(1), sequence(emit(1), emit(2), emit(3))), 6},
	} {
		exactly(t, programOf(both(front, c.behind)), 75+c.more, c.more == 5)
	}
	wide := fact(1, 2, 3, 4, 5)
	exactly(t, programOf(sequence(slices.Repeat([][]impl.Stmt{put(wide, wide)}, 15)...)), 406, false)
	deep := emit(1)
	for range 29 {
		deep = while(wide, deep)
	}
	exactly(t, programOf(deep), 29*15+2, false)
}

// TestMaxPointsOfPrograms has loops behind loops, and loops in loops.
func TestMaxPointsOfPrograms(t *testing.T) {
	for count := 1; count <= 10; count++ {
		row := sequence(slices.Repeat([][]impl.Stmt{while(fact(-1), skip())}, count)...)
		deep := skip()
		for range count {
			deep = while(fact(-1), deep)
		}
		for _, body := range [][]impl.Stmt{row, deep} {
			exactly(t, programOf(body), int64(3*count+1), count <= 8)
			a, _ := impl.CompileProgram(programOf(body))
			if count <= 8 {
				same(t, "points", len(a.Points), count)
			}
		}
	}
}

// TestStackOfPrograms requires heights for the code of all programs. They are never greater than 3, so that none needs more than MaxStack.
func TestStackOfPrograms(t *testing.T) {
	highest, count := int64(0), 0
	for _, p := range programsToCompile(400) {
		if a, ok := impl.CompileProgram(p); ok {
			heights, ok := impl.HeightsOf(a)
			same(t, shown(p), ok, true)
			highest = max(highest, slices.Max(heights))
			count++
		}
	}
	same(t, "the greatest height", highest, int64(3))
	if count < 800 {
		t.Errorf("only %d programs", count)
	}
}

// lengthAgain returns the number of the instructions of a statement.
func lengthAgain(body []impl.Stmt) int64 {
	e := body[0]
	sum, index := int64(len(termCode(e.Sum))), int64(len(termCode(e.Index)))
	own := []int64{0, 0, sum + 1, index + 2, index + sum + 1, 1, sum + 1, sum + 2, sum + 2}[e.Kind]
	for _, part := range behindOf(body) {
		own += lengthAgain(part)
	}
	return own
}

// placesAgain returns the places of the elements of a statement whose code begins at a place.
func placesAgain(body []impl.Stmt, place int64) []int64 {
	places := []int64{place}
	if isIn(body[0].Kind, impl.StmtIf, impl.StmtWhile) {
		place += int64(len(termCode(body[0].Sum))) + 1
	}
	for i, part := range behindOf(body) {
		if i == 1 && body[0].Kind == impl.StmtIf {
			place++
		}
		places = append(places, placesAgain(part, place)...)
		place += lengthAgain(part)
	}
	return places
}

// originsAgain returns for each instruction the last element in whose code it is. Those that come later overwrite the others.
func originsAgain(body []impl.Stmt) []int64 {
	origins := repeated(int64(len(body)), int(lengthAgain(body))+1)
	for i, place := range placesAgain(body, 0) {
		size := sizeOf(body[i:])
		for k := range lengthAgain(body[i : i+size]) {
			origins[place+k] = int64(i)
		}
	}
	return origins
}

// TestCompiledAgain compares the code, places and origins of programs with those that are found by another way.
func TestCompiledAgain(t *testing.T) {
	longer, valid := 0, 0
	for _, p := range append(programsToCompile(500), programOf(skip())) {
		want := compiledAgain(p)
		a, ok := impl.CompileProgram(p)
		if impl.ValidAnnotated(want) {
			same(t, shown(p), results(a, ok), results(want, true))
			valid++
		} else {
			fails(t, shown(p), a, ok)
			longer++
		}
		length, ok := impl.LengthOf(p)
		same(t, shown(p), results(length, ok), results(lengthAgain(p.Body)+1, true))
		places, ok := impl.PlacesOf(p)
		same(t, shown(p), results(places, ok), results(placesAgain(p.Body, 0), true))
		originsAre(t, p, originsAgain(p.Body)...)
	}
	if longer < 100 || valid < 500 {
		t.Errorf("only %d programs have code, and %d have none", valid, longer)
	}
}

func TestBadProgramsToCompile(t *testing.T) {
	for _, p := range append(badPrograms(), longPrograms()...) {
		a, ok := impl.CompileProgram(p)
		fails(t, "CompileProgram", a, ok)
		length, ok := impl.LengthOf(p)
		fails(t, "LengthOf", length, ok)
		places, ok := impl.PlacesOf(p)
		fails(t, "PlacesOf", places, ok)
		for _, k := range []int64{0, 1, -1, math.MaxInt64} {
			origin, ok := impl.OriginOf(p, k)
			fails(t, "OriginOf", origin, ok)
		}
	}
}

// TestValidProgramsToCompile requires a length for all valid programs.
func TestValidProgramsToCompile(t *testing.T) {
	for _, body := range validBodies() {
		six := factsOf(fact(-1e6, 1e6, -1e6, 1e6, -1e6), 6)
		p := impl.Program{Pre: six, Body: body, Post: six}
		length, ok := impl.LengthOf(p)
		same(t, shown(p), results(length, ok), results(lengthAgain(body)+1, true))
		if a, ok := impl.CompileProgram(p); ok {
			same(t, shown(p), results(a.Pre, a.Post), results(six, six))
			text, _ := impl.CodeText(a.Code)
			same(t, shown(p), strings.Count(text, "\n"), int(length))
		}
	}
}
