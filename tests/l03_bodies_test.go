package tests

import (
	"math"
	"slices"
	"strings"
	"testing"

	"loop.example/g01105/impl"
)

func TestConstantsOfChapter3(t *testing.T) {
	limits := []int64{impl.Cells, impl.Events, impl.MaxInt, impl.MaxStmts, impl.MaxGiven, impl.MaxFuel}
	same(t, "limits", limits, []int64{8, 4, 1000000000, 30, 6, 2000})
	kinds := []int64{impl.StmtSkip, impl.StmtSeq, impl.StmtSet, impl.StmtGet, impl.StmtPut, impl.StmtEmit, impl.StmtAssert, impl.StmtIf, impl.StmtWhile}
	same(t, "kinds", kinds, []int64{0, 1, 2, 3, 4, 5, 6, 7, 8})
	same(t, "outcomes", []int64{impl.OutDone, impl.OutFuel, impl.OutCell, impl.OutAssert, impl.OutRange}, []int64{0, 1, 2, 3, 4})
}

func TestIsBody(t *testing.T) {
	for _, body := range validBodies() {
		same(t, shown(body), impl.IsBody(body), true)
	}
	for _, body := range badBodies() {
		same(t, shown(body), impl.IsBody(body), false)
	}
	for _, body := range manyBodies(60) {
		for k := range body {
			same(t, "a body that ends early", impl.IsBody(body[:k]), false)
			same(t, "a statement of a body", impl.IsBody(body[k:]), k+sizeOf(body[k:]) == len(body))
		}
		same(t, "a body and more", impl.IsBody(append(slices.Clone(body), skip()...)), false)
	}
	same(t, "empty Facts", impl.IsBody([]impl.Stmt{{Facts: []impl.Term{}, Sum: impl.Term{Coeffs: []int64{}}}}), true)
}

// fieldCases returns changes of a field of a zero element with its name: those that are valid where the field is used, and those that never are.
func fieldCases() (good, bad map[string][]func(*impl.Stmt)) {
	good, bad = map[string][]func(*impl.Stmt){}, map[string][]func(*impl.Stmt){}
	for _, n := range []int64{1, 3, 4, -1, math.MaxInt64, math.MinInt64, 1 << 32} {
		list := bad
		if n == 1 || n == 3 {
			list = good
		}
		list["var"] = append(list["var"], func(e *impl.Stmt) { e.Var = n })
		list["event"] = append(list["event"], func(e *impl.Stmt) { e.Event = n })
	}
	addTerm := func(list map[string][]func(*impl.Stmt), x impl.Term) {
		list["sum"] = append(list["sum"], func(e *impl.Stmt) { e.Sum = x })
		list["index"] = append(list["index"], func(e *impl.Stmt) { e.Index = x })
		list["facts"] = append(list["facts"], func(e *impl.Stmt) { e.Facts = factsOf(x, 6) }, func(e *impl.Stmt) { e.Facts = []impl.Term{x} })
	}
	for _, x := range []impl.Term{fact(1), fact(-1), fact(1e6), fact(-1e6), alone(0, 1), alone(3, -1), fact(0, repeated(1e6, 4)...), fact(0, repeated(-1e6, 4)...)} {
		addTerm(good, x)
	}
	for _, x := range append(badTerms(), alone(4, 1), alone(9, 1), fact(0, 1, 1, 1, 1, 1)) {
		addTerm(bad, x)
	}
	good["facts"] = append(good["facts"], func(e *impl.Stmt) { e.Facts = factsOf(fact(0), 1) })
	bad["facts"] = append(bad["facts"], func(e *impl.Stmt) { e.Facts = factsOf(fact(0), 7) }, func(e *impl.Stmt) { e.Facts = factsOf(fact(0), 10000) })
	return good, bad
}

// TestFieldsOfElements tries each field with each kind.
func TestFieldsOfElements(t *testing.T) {
	uses := []string{"", "", "var sum", "var index", "index sum", "event", "sum", "sum", "sum facts"}
	good, bad := fieldCases()
	for kind, used := range uses {
		behind := slices.Repeat(skip(), []int{0, 2, 0, 0, 0, 0, 0, 2, 1}[kind])
		try := func(field string, change func(*impl.Stmt), want bool) {
			e := impl.Stmt{Kind: int64(kind)}
			change(&e)
			body := append([]impl.Stmt{e}, behind...)
			same(t, field+shown(e), impl.IsBody(body), want)
			same(t, field+shown(e), impl.ValidProgram(programOf(both(skip(), body))), want)
		}
		try("none", func(*impl.Stmt) {}, true)
		for field, changes := range good {
			for _, change := range changes {
				try(field, change, strings.Contains(used, field))
			}
		}
		for field, changes := range bad {
			for _, change := range changes {
				try(field, change, false)
			}
		}
	}
}

func TestValidProgram(t *testing.T) {
	wideTerm := fact(1e6, repeated(-1e6, 4)...)
	for _, body := range validBodies() {
		same(t, shown(body), impl.ValidProgram(programOf(body)), true)
		same(t, shown(body), impl.ValidProgram(impl.Program{Pre: factsOf(wideTerm, 6), Body: body, Post: factsOf(wideTerm, 6)}), true)
		same(t, "7 terms", impl.ValidProgram(impl.Program{Pre: factsOf(wideTerm, 7), Body: body}), false)
		same(t, "7 terms", impl.ValidProgram(impl.Program{Body: body, Post: factsOf(wideTerm, 7)}), false)
	}
	for _, p := range badPrograms() {
		same(t, shown(p), impl.ValidProgram(p), false)
	}
	same(t, "no body", impl.ValidProgram(impl.Program{}), false)
}

func TestValidState(t *testing.T) {
	for _, s := range manyStates() {
		same(t, shown(s), impl.ValidState(s), true)
	}
	for _, s := range badStates() {
		same(t, shown(s), impl.ValidState(s), false)
	}
}

func TestEndOf(t *testing.T) {
	body := both(ifElse(alone(0, 1), emit(1), while(fact(0), both(skip(), emit(2)))), skip())
	for k, want := range []int64{8, 7, 3, 7, 7, 6, 7, 8} {
		end, ok := impl.EndOf(body, int64(k))
		same(t, "EndOf", results(end, ok), results(want, true))
	}
	for _, body := range validBodies() {
		for k := range body {
			end, ok := impl.EndOf(body, int64(k))
			same(t, shown(body), results(end, ok), results(int64(k+sizeOf(body[k:])), true))
		}
		for _, k := range append(oddNumbers(), int64(len(body)), int64(len(body))+1) {
			if k < 0 || k >= int64(len(body)) {
				end, ok := impl.EndOf(body, k)
				fails(t, "EndOf", end, ok)
			}
		}
	}
	for _, bad := range badBodies() {
		for _, k := range []int64{0, 1, -1, int64(len(bad)) - 1} {
			end, ok := impl.EndOf(bad, k)
			fails(t, shown(bad), end, ok)
		}
	}
}

func TestEventsIn(t *testing.T) {
	cases := []struct {
		body []impl.Stmt
		set  []int64
	}{
		{skip(), nil}, {emit(0), []int64{0}}, {emit(3), []int64{3}}, {sequence(emit(3), emit(1), emit(3)), []int64{1, 3}}, {sequence(emit(3), emit(2), emit(1), emit(0)), []int64{0, 1, 2, 3}},
		{ifElse(fact(-1), emit(2), while(fact(-1), emit(0))), []int64{0, 2}}, {sequence(assert(fact(-1)), emit(1)), []int64{1}}, {set(1, fact(2)), nil}, {while(fact(0), skip()), nil},
	}
	for _, c := range cases {
		set, ok := impl.EventsIn(programOf(c.body))
		same(t, shown(c.body), results(set, ok), results(c.set, true))
	}
	for _, p := range manyPrograms(60) {
		var events []int64
		for _, e := range p.Body {
			if e.Kind == impl.StmtEmit {
				events = append(events, e.Event)
			}
		}
		slices.Sort(events)
		set, ok := impl.EventsIn(p)
		same(t, shown(p), results(set, ok), results(slices.Compact(events), true))
	}
	for _, p := range badPrograms() {
		set, ok := impl.EventsIn(p)
		fails(t, shown(p), set, ok)
	}
}

func TestHoldsIn(t *testing.T) {
	s := impl.State{Vars: []int64{1, 2, -3, 0}, Cells: repeated(5, 8)}
	cases := []struct {
		list  []impl.Term
		s     impl.State
		holds bool
	}{
		{nil, s, true}, {[]impl.Term{fact(0)}, s, true}, {[]impl.Term{fact(-1)}, s, false}, {[]impl.Term{fact(-1, 1)}, s, true}, {[]impl.Term{fact(-2, 1)}, s, false}, {[]impl.Term{alone(2, 1)}, s, false}, {[]impl.Term{alone(2, -1), alone(3, 1)}, s, true},
		{factsOf(alone(0, 1), 14), s, true}, {append(factsOf(alone(0, 1), 13), fact(-1)), s, false}, {append([]impl.Term{fact(-1)}, factsOf(fact(0), 13)...), s, false}, {[]impl.Term{fact(0, 1, 1, 1, 1)}, s, true}, {[]impl.Term{fact(-1, 1, 1, 1, 1)}, s, false},
		{[]impl.Term{fact(1e6, repeated(1e6, 4)...)}, state(1e9, 1e9, 1e9, 1e9), true}, {[]impl.Term{fact(1e6, repeated(1e6, 4)...)}, state(-1e9, -1e9, -1e9, -1e9), false}, {[]impl.Term{fact(0, 1e6, -1e6)}, state(1e9, 1e9), true}, {[]impl.Term{fact(-1, 1e6, -1e6)}, state(1e9, 1e9), false},
	}
	for _, c := range cases {
		holds, ok := impl.HoldsIn(c.list, c.s)
		same(t, shown(c.list), results(holds, ok), results(c.holds, true))
	}
	for _, list := range append(badLists(), factsOf(fact(0), 15), factsOf(fact(-1), 15), []impl.Term{alone(4, 1)}, []impl.Term{fact(-1), alone(9, 1)}, append(factsOf(fact(0), 13), alone(4, 1))) {
		holds, ok := impl.HoldsIn(list, s)
		fails(t, shown(list), holds, ok)
	}
	for _, bad := range badStates() {
		for _, list := range [][]impl.Term{nil, {fact(0)}, {fact(-1)}} {
			holds, ok := impl.HoldsIn(list, bad)
			fails(t, shown(bad), holds, ok)
		}
	}
	for _, p := range manyPrograms(60) {
		for _, s := range manyStates() {
			holds, ok := impl.HoldsIn(p.Pre, s)
			same(t, shown(p.Pre), results(holds, ok), results(allHold(p.Pre, s.Vars), true))
		}
	}
}
