package tests

import (
	"reflect"
	"slices"
	"testing"

	"loop.example/g01105/impl"
)

func isChanged(t *testing.T, what string, got []impl.Stmt, ok bool, want []impl.Stmt) {
	t.Helper()
	same(t, what, results(got, ok), results(want, true))
}

// partsAgain returns the parts of a statement.
func partsAgain(body []impl.Stmt) [][]impl.Stmt {
	if body[0].Kind != impl.StmtSeq {
		return [][]impl.Stmt{body}
	}
	behind := behindOf(body)
	return append(partsAgain(behind[0]), partsAgain(behind[1])...)
}

// normalAgain returns the normal body by another way: on lists.
func normalAgain(body []impl.Stmt) []impl.Stmt {
	var parts [][]impl.Stmt
	for _, part := range partsAgain(body) {
		whole := slices.Clone(part[:1])
		for _, next := range behindOf(part) {
			whole = append(whole, normalAgain(next)...)
		}
		parts = append(parts, whole)
	}
	return sequence(parts...)
}

// simpleAgain returns the simplified body by another way: on lists.
func simpleAgain(body []impl.Stmt) []impl.Stmt {
	e := body[0]
	var behind [][]impl.Stmt
	for _, next := range behindOf(body) {
		behind = append(behind, simpleAgain(next))
	}
	fixed := len(e.Sum.Coeffs) == 0
	switch {
	case e.Kind == impl.StmtSeq && behind[0][0].Kind == impl.StmtSkip:
		return behind[1]
	case e.Kind == impl.StmtSeq && behind[1][0].Kind == impl.StmtSkip:
		return behind[0]
	case e.Kind == impl.StmtIf && fixed && e.Sum.Const >= 0:
		return behind[0]
	case e.Kind == impl.StmtIf && fixed:
		return behind[1]
	case e.Kind == impl.StmtIf && reflect.DeepEqual(filled(reflect.ValueOf(behind[0])).Interface(), filled(reflect.ValueOf(behind[1])).Interface()):
		return behind[0]
	case e.Kind == impl.StmtWhile && fixed && e.Sum.Const < 0, e.Kind == impl.StmtAssert && fixed && e.Sum.Const >= 0:
		return skip()
	case e.Kind == impl.StmtSet && reflect.DeepEqual(e.Sum, alone(int(e.Var), 1)):
		return skip()
	}
	return slices.Concat(append([][]impl.Stmt{{e}}, behind...)...)
}

func TestNormalBody(t *testing.T) {
	a, b, c, d := emit(0), emit(1), emit(2), set(3, alone(0, 1))
	cases := [][2][]impl.Stmt{
		{skip(), skip()}, {d, d}, {both(a, b), both(a, b)}, {both(both(a, b), c), both(a, both(b, c))}, {both(a, both(b, c)), both(a, both(b, c))}, {both(both(a, b), both(c, d)), sequence(a, b, c, d)}, {both(both(both(a, b), c), d), sequence(a, b, c, d)},
		{both(both(a, both(b, c)), d), sequence(a, b, c, d)}, {both(both(skip(), a), skip()), sequence(skip(), a, skip())}, {ifElse(alone(0, 1), leftSequence(a, b, c), leftSequence(b, c, d)), ifElse(alone(0, 1), sequence(a, b, c), sequence(b, c, d))},
		{while(fact(1), leftSequence(a, b, c), fact(5)), while(fact(1), sequence(a, b, c), fact(5))}, {both(both(while(fact(1), leftSequence(a, b, c)), a), b), sequence(while(fact(1), sequence(a, b, c)), a, b)}, {both(a, ifElse(fact(0), both(both(a, b), c), d)), both(a, ifElse(fact(0), sequence(a, b, c), d))},
		{both(both(a, ifElse(fact(0), d, while(fact(1), leftSequence(a, b, c)))), d), sequence(a, ifElse(fact(0), d, while(fact(1), sequence(a, b, c))), d)},
	}
	for _, c := range cases {
		got, ok := impl.NormalBody(c[0])
		isChanged(t, shown(c[0]), got, ok, c[1])
	}
	for _, body := range append(validBodies(), manyBodies(600)...) {
		got, ok := impl.NormalBody(body)
		isChanged(t, shown(body), got, ok, normalAgain(body))
		for k := range got[1:] {
			if got[k].Kind == impl.StmtSeq && got[k+1].Kind == impl.StmtSeq {
				t.Errorf("%s is not normal", shown(got))
			}
		}
		again, ok := impl.NormalBody(got)
		isChanged(t, "a normal body", again, ok, got)
	}
	for _, bad := range badBodies() {
		got, ok := impl.NormalBody(bad)
		fails(t, shown(bad), got, ok)
	}
}

// TestRulesOfSimplifyBody has each rule where it applies, where it nearly applies, and where it applies only after others.
func TestRulesOfSimplifyBody(t *testing.T) {
	a, b, x := emit(0), emit(1), alone(0, 1)
	cases := [][2][]impl.Stmt{
		{both(skip(), a), a}, {both(a, skip()), a}, {both(skip(), skip()), skip()}, {both(a, b), both(a, b)}, {both(both(skip(), skip()), a), a}, {both(a, both(skip(), skip())), a}, {both(both(a, skip()), both(skip(), b)), both(a, b)}, {both(both(a, b), skip()), both(a, b)},
		{ifElse(fact(0), a, b), a}, {ifElse(fact(1), a, b), a}, {ifElse(fact(1e6), skip(), b), skip()}, {ifElse(fact(-1), a, b), b}, {ifElse(fact(-1e6), a, skip()), skip()}, {ifElse(x, a, a), a}, {ifElse(x, a, b), ifElse(x, a, b)}, {ifElse(fact(-1, 1), skip(), skip()), skip()}, {ifElse(fact(-1), a, a), a},
		{ifElse(x, both(a, both(b, a)), both(both(a, b), a)), ifElse(x, both(a, both(b, a)), both(both(a, b), a))}, {ifElse(x, both(skip(), a), both(a, skip())), a}, {ifElse(x, set(0, x), set(1, alone(1, 1))), skip()}, {ifElse(x, set(0, alone(1, 1)), set(1, alone(1, 1))), ifElse(x, set(0, alone(1, 1)), skip())},
		{ifElse(x, ifElse(fact(0), a, b), ifElse(fact(-1), b, a)), a}, {ifElse(x, get(1, x), get(1, fact(1, 1))), ifElse(x, get(1, x), get(1, fact(1, 1)))}, {ifElse(x, get(1, x), get(2, x)), ifElse(x, get(1, x), get(2, x))}, {ifElse(x, put(x, fact(1)), put(x, fact(2))), ifElse(x, put(x, fact(1)), put(x, fact(2)))},
		{ifElse(x, while(x, a), while(x, a, x)), ifElse(x, while(x, a), while(x, a, x))}, {ifElse(x, while(x, a, x, fact(1)), while(x, a, fact(1), x)), ifElse(x, while(x, a, x, fact(1)), while(x, a, fact(1), x))}, {ifElse(x, while(x, both(skip(), a), x), while(x, a, x)), while(x, a, x)}, {ifElse(x, a, skip()), ifElse(x, a, skip())},
		{while(fact(-1), a), skip()}, {while(fact(-1e6), a, x), skip()}, {while(fact(0), a), while(fact(0), a)}, {while(fact(1), skip()), while(fact(1), skip())}, {while(fact(-1, 1), a), while(fact(-1, 1), a)}, {while(x, skip(), x), while(x, skip(), x)}, {while(x, while(fact(-1), a), x), while(x, skip(), x)}, {while(x, both(a, skip()), fact(3)), while(x, a, fact(3))},
		{assert(fact(0)), skip()}, {assert(fact(7)), skip()}, {assert(fact(-1)), assert(fact(-1))}, {assert(x), assert(x)}, {assert(fact(7, 1)), assert(fact(7, 1))}, {both(assert(fact(0)), a), a}, {both(assert(fact(-1)), a), both(assert(fact(-1)), a)},
		{set(0, x), skip()}, {set(3, alone(3, 1)), skip()}, {set(1, x), set(1, x)}, {set(0, alone(1, 1)), set(0, alone(1, 1))}, {set(0, fact(1, 1)), set(0, fact(1, 1))}, {set(0, alone(0, -1)), set(0, alone(0, -1))}, {set(0, alone(0, 2)), set(0, alone(0, 2))}, {set(0, fact(0, 1, 1)), set(0, fact(0, 1, 1))}, {set(1, fact(0, 1, 1)), set(1, fact(0, 1, 1))}, {set(0, fact(0)), set(0, fact(0))}, {set(2, fact(1)), set(2, fact(1))},
		{get(0, x), get(0, x)}, {get(0, fact(0)), get(0, fact(0))}, {put(fact(0), fact(0)), put(fact(0), fact(0))}, {a, a}, {skip(), skip()},
		{sequence(set(0, x), skip(), ifElse(fact(1), a, skip())), a}, {ifElse(x, a, both(assert(fact(0)), a)), a}, {both(set(0, fact(-1, 1)), skip()), set(0, fact(-1, 1))}, {both(ifElse(fact(-1), a, skip()), while(fact(-1), b)), skip()}, {ifElse(x, both(while(fact(-1), a), b), ifElse(alone(1, 1), b, b)), b},
	}
	for _, c := range cases {
		got, ok := impl.SimplifyBody(c[0])
		isChanged(t, shown(c[0]), got, ok, c[1])
		for _, outer := range []func([]impl.Stmt) []impl.Stmt{
			func(body []impl.Stmt) []impl.Stmt { return both(b, both(emit(3), body)) },
			func(body []impl.Stmt) []impl.Stmt { return ifElse(x, emit(3), while(x, body, x)) },
			func(body []impl.Stmt) []impl.Stmt { return ifElse(x, both(emit(3), body), emit(3)) },
		} {
			got, ok := impl.SimplifyBody(outer(c[0]))
			isChanged(t, shown(c[0]), got, ok, simpleAgain(outer(c[1])))
		}
	}
}

func TestSimplifyBody(t *testing.T) {
	shorter := 0
	for _, body := range append(validBodies(), manyBodies(900)...) {
		got, ok := impl.SimplifyBody(body)
		isChanged(t, shown(body), got, ok, simpleAgain(body))
		same(t, "IsBody", impl.IsBody(got), true)
		if len(got) < len(body) {
			shorter++
		}
	}
	if shorter < 200 {
		t.Errorf("only %d bodies become shorter", shorter)
	}
	for _, bad := range badBodies() {
		got, ok := impl.SimplifyBody(bad)
		fails(t, shown(bad), got, ok)
	}
}

// TestChangedBodiesDoTheSame runs bodies, their normal bodies, which make as many steps, and their simplified ones, which make no more.
func TestChangedBodiesDoTheSame(t *testing.T) {
	for i, body := range manyBodies(600) {
		normal, _ := impl.NormalBody(body)
		simple, _ := impl.SimplifyBody(body)
		s := manyStates()[i%13]
		whole := runOf(t, programOf(body), s, 2000)
		for _, fuel := range []int64{0, 3, whole.steps - 1, whole.steps, 2000} {
			isRun(t, shown(body), runOf(t, programOf(normal), s, max(fuel, 0)), runOf(t, programOf(body), s, max(fuel, 0)))
		}
		if whole.outcome == impl.OutFuel {
			continue
		}
		less := runOf(t, programOf(simple), s, whole.steps)
		if less.steps > whole.steps {
			t.Errorf("%s makes more steps when it is simplified", shown(body))
		}
		less.steps = whole.steps
		isRun(t, shown(body), less, whole)
	}
}

func TestJoinPrograms(t *testing.T) {
	p := impl.Program{Pre: factsOf(alone(0, 1), 6), Body: leftSequence(emit(0), emit(1), skip()), Post: factsOf(fact(-1), 2)}
	q := impl.Program{Pre: factsOf(fact(-3), 3), Body: while(alone(1, 1), set(1, fact(-1, 0, 1)), alone(2, 1)), Post: factsOf(alone(3, 1), 6)}
	got, ok := impl.JoinPrograms(p, q)
	same(t, "JoinPrograms", results(got, ok), results(impl.Program{Pre: p.Pre, Body: both(p.Body, q.Body), Post: q.Post}, true))
	got, ok = impl.JoinPrograms(programOf(skip()), programOf(skip()))
	same(t, "JoinPrograms", results(got, ok), results(programOf(both(skip(), skip())), true))
	programs := manyPrograms(90)
	for i, p := range programs {
		for _, q := range programs[i%30:][:31] {
			got, ok := impl.JoinPrograms(p, q)
			if len(p.Body)+len(q.Body) > 29 {
				fails(t, "too many elements", got, ok)
			} else {
				same(t, "JoinPrograms", results(got, ok), results(impl.Program{Pre: p.Pre, Body: both(p.Body, q.Body), Post: q.Post}, true))
			}
		}
	}
	for _, bad := range badPrograms() {
		got, ok := impl.JoinPrograms(bad, p)
		fails(t, shown(bad), got, ok)
		got, ok = impl.JoinPrograms(p, bad)
		fails(t, shown(bad), got, ok)
	}
}

func TestSizesOfJoinedPrograms(t *testing.T) {
	bodies := manyBodies(30)
	for size := 1; size <= 30; size++ {
		for other, want := range map[int]bool{28 - size: true, 29 - size: true, 30 - size: false, 30: false} {
			if other < 1 {
				continue
			}
			got, ok := impl.JoinPrograms(programOf(bodies[size-1]), programOf(bodies[other-1]))
			same(t, "JoinPrograms", []any{ok, len(got.Body) == 1+size+other}, []any{want, want})
			if !want {
				fails(t, "JoinPrograms", got, ok)
			}
		}
	}
}

// TestJoinedProgramsDoBoth runs one program, and the other one from where it has ended.
func TestJoinedProgramsDoBoth(t *testing.T) {
	programs, ended := manyPrograms(400), 0
	for i, p := range programs {
		q, s := programs[(7*i+2)%len(programs)], manyStates()[i%13]
		joined, ok := impl.JoinPrograms(p, q)
		first := runOf(t, p, s, 2000)
		if !ok || first.outcome == impl.OutFuel {
			continue
		}
		want := first
		if first.outcome == impl.OutDone {
			want = runOf(t, q, first.last, 2000-first.steps)
			want.events = append(slices.Clone(first.events), want.events...)
			want.steps += first.steps
			ended++
		}
		isRun(t, shown(joined), runOf(t, joined, s, 2000), want)
	}
	if ended < 50 {
		t.Errorf("only %d programs come to the second one", ended)
	}
}
