package tests

import (
	"math"
	"math/rand/v2"
	"slices"
	"strings"
	"testing"

	"loop.example/g01105/impl"
)

// The functions skip to sequence return bodies, as they are written, valid or not.

func skip() []impl.Stmt {
	return []impl.Stmt{{Kind: impl.StmtSkip}}
}

func set(v int64, sum impl.Term) []impl.Stmt {
	return []impl.Stmt{{Kind: impl.StmtSet, Var: v, Sum: sum}}
}

func get(v int64, index impl.Term) []impl.Stmt {
	return []impl.Stmt{{Kind: impl.StmtGet, Var: v, Index: index}}
}

func put(index, sum impl.Term) []impl.Stmt {
	return []impl.Stmt{{Kind: impl.StmtPut, Index: index, Sum: sum}}
}

func emit(event int64) []impl.Stmt {
	return []impl.Stmt{{Kind: impl.StmtEmit, Event: event}}
}

func assert(sum impl.Term) []impl.Stmt {
	return []impl.Stmt{{Kind: impl.StmtAssert, Sum: sum}}
}

func ifElse(sum impl.Term, first, second []impl.Stmt) []impl.Stmt {
	return slices.Concat([]impl.Stmt{{Kind: impl.StmtIf, Sum: sum}}, first, second)
}

func while(sum impl.Term, body []impl.Stmt, facts ...impl.Term) []impl.Stmt {
	return slices.Concat([]impl.Stmt{{Kind: impl.StmtWhile, Sum: sum, Facts: facts}}, body)
}

func both(first, second []impl.Stmt) []impl.Stmt {
	return slices.Concat([]impl.Stmt{{Kind: impl.StmtSeq}}, first, second)
}

// sequence returns the normal body with some parts.
func sequence(parts ...[]impl.Stmt) []impl.Stmt {
	if len(parts) == 1 {
		return parts[0]
	}
	return both(parts[0], sequence(parts[1:]...))
}

// leftSequence returns the body with the same parts that is least normal.
func leftSequence(parts ...[]impl.Stmt) []impl.Stmt {
	body := parts[0]
	for _, part := range parts[1:] {
		body = both(body, part)
	}
	return body
}

func programOf(body []impl.Stmt) impl.Program {
	return impl.Program{Body: body}
}

// state returns a state whose numbers are 0 but for the first variables.
func state(vars ...int64) impl.State {
	return impl.State{Vars: append(slices.Clone(vars), make([]int64, 4-len(vars))...), Cells: make([]int64, 8)}
}

// read returns the program with a text of several lines.
func read(t *testing.T, lines ...string) impl.Program {
	t.Helper()
	p, ok := impl.ReadProgram(strings.Join(lines, "\n") + "\n")
	if !ok {
		t.Fatalf("no program: %q", lines)
	}
	return p
}

func isIn(n int64, list ...int64) bool {
	return slices.Contains(list, n)
}

// behindOf returns the statements behind the first element of a statement.
func behindOf(body []impl.Stmt) [][]impl.Stmt {
	var behind [][]impl.Stmt
	at := 1
	next := func() {
		size := sizeOf(body[at:])
		behind = append(behind, body[at:at+size])
		at += size
	}
	if isIn(body[0].Kind, impl.StmtSeq, impl.StmtIf, impl.StmtWhile) {
		next()
	}
	if isIn(body[0].Kind, impl.StmtSeq, impl.StmtIf) {
		next()
	}
	return behind
}

// sizeOf returns how many elements the statement has that begins a list.
func sizeOf(body []impl.Stmt) int {
	size := 1
	for _, part := range behindOf(body) {
		size += len(part)
	}
	return size
}

// randomTerm returns a term over variables, with small numbers more often than with great ones.
func randomTerm(random *rand.Rand) impl.Term {
	switch random.IntN(8) {
	case 0:
		return fact(random.Int64N(5) - 2)
	case 1:
		return alone(random.IntN(4), 1)
	case 2:
		return fact(random.Int64N(2000001)-1000000, 1e6, random.Int64N(2000001)-1000000, -1e6, 1)
	}
	t := fact(random.Int64N(9) - 4)
	for range random.IntN(3) {
		t.Coeffs = append(t.Coeffs, random.Int64N(3)-1)
	}
	return fact(t.Const, append(t.Coeffs, random.Int64N(2)*2-1)...)
}

func randomTerms(random *rand.Rand, limit int) []impl.Term {
	var list []impl.Term
	for range random.IntN(limit + 1) {
		list = append(list, randomTerm(random))
	}
	return list
}

func randomLeaf(random *rand.Rand) []impl.Stmt {
	v := random.Int64N(4)
	small := fact(random.Int64N(10) - 1)
	switch random.IntN(10) {
	case 0:
		return skip()
	case 1:
		return set(v, randomTerm(random))
	case 2, 3:
		t := alone(random.IntN(4), 1)
		t.Const = random.Int64N(5) - 3
		return set(v, t)
	case 4:
		return get(v, []impl.Term{small, randomTerm(random)}[random.IntN(2)])
	case 5:
		return put([]impl.Term{small, randomTerm(random)}[random.IntN(2)], randomTerm(random))
	case 6, 7:
		return emit(random.Int64N(4))
	case 8:
		return assert(randomTerm(random))
	}
	return set(v, alone(int(v), 1))
}

// randomBody returns a body of a given size, as often with StmtSeq as with StmtIf and StmtWhile together.
func randomBody(random *rand.Rand, size int) []impl.Stmt {
	if size == 1 {
		return randomLeaf(random)
	}
	kind := random.IntN(6)
	if size == 2 || kind == 0 {
		return while(randomTerm(random), randomBody(random, size-1), randomTerms(random, 2)...)
	}
	first := 1 + random.IntN(size-2)
	if kind == 1 {
		first = (size - 1) / 2
		if part := randomBody(random, first); size%2 == 1 {
			return ifElse(randomTerm(random), part, slices.Clone(part))
		}
	}
	one, two := randomBody(random, first), randomBody(random, size-1-first)
	if kind <= 2 {
		return ifElse(randomTerm(random), one, two)
	}
	return both(one, two)
}

// manyBodies returns bodies of all sizes from a fixed seed.
func manyBodies(count int) [][]impl.Stmt {
	random := rand.New(rand.NewPCG(9, 10))
	var list [][]impl.Stmt
	for i := range count {
		list = append(list, randomBody(random, 1+i%30))
	}
	return list
}

func manyPrograms(count int) []impl.Program {
	random := rand.New(rand.NewPCG(11, 12))
	var list []impl.Program
	for _, body := range manyBodies(count) {
		list = append(list, impl.Program{Pre: randomTerms(random, 6), Body: body, Post: randomTerms(random, 6)})
	}
	return list
}

// validBodies are one body of each kind, bodies at the limits, and others.
func validBodies() [][]impl.Stmt {
	wideTerm := fact(-1e6, 1e6, -1e6, 1e6, -1e6)
	list := [][]impl.Stmt{
		skip(), both(skip(), skip()), set(3, wideTerm), get(3, wideTerm), put(wideTerm, wideTerm), emit(3), assert(wideTerm), ifElse(wideTerm, skip(), skip()), while(wideTerm, skip(), factsOf(wideTerm, 6)...),
		set(0, fact(0)), get(0, fact(0)), put(fact(0), fact(0)), emit(0), assert(fact(0)), ifElse(fact(0), skip(), skip()), while(fact(0), skip()), set(1, alone(1, 1)),
		while(fact(0), sequence(slices.Repeat([][]impl.Stmt{emit(1)}, 15)...)), sequence(while(fact(-1), skip()), leftSequence(slices.Repeat([][]impl.Stmt{emit(2)}, 14)...)),
	}
	deep := skip()
	for range 29 {
		deep = while(alone(0, 1), deep)
	}
	return append(append(list, deep), manyBodies(90)...)
}

// badBodies are no bodies for any function that takes one.
func badBodies() [][]impl.Stmt {
	list := [][]impl.Stmt{
		nil, {}, {{Kind: 9}}, {{Kind: -1}}, {{Kind: math.MaxInt64}}, {{Kind: math.MinInt64}}, slices.Concat(skip(), skip()), slices.Concat(emit(1), skip()), {{Kind: impl.StmtSeq}}, {{Kind: impl.StmtIf}}, {{Kind: impl.StmtWhile}},
		both(skip(), nil), both(both(skip(), skip()), nil), both(nil, both(skip(), nil)), ifElse(fact(0), skip(), nil), while(fact(0), nil), while(fact(0), both(skip(), nil)), while(fact(0), slices.Concat(skip(), skip())), both(skip(), slices.Concat(skip(), skip())),
		ifElse(fact(0), skip(), slices.Concat(skip(), skip())), both(skip(), []impl.Stmt{{Kind: 9}}), both([]impl.Stmt{{Kind: -1}}, skip()), while(fact(0), sequence(slices.Repeat([][]impl.Stmt{skip()}, 15)...), factsOf(fact(0), 7)...),
		sequence(slices.Repeat([][]impl.Stmt{skip()}, 16)...), leftSequence(slices.Repeat([][]impl.Stmt{skip()}, 16)...), slices.Repeat(skip(), 100000), slices.Repeat([]impl.Stmt{{Kind: impl.StmtSeq}}, 100000),
		set(4, fact(0)), set(-1, fact(0)), get(4, fact(0)), get(-1, fact(0)), emit(4), emit(-1), set(math.MaxInt64, fact(0)), emit(math.MinInt64), {{Kind: impl.StmtSkip, Var: 1}}, {{Kind: impl.StmtSkip, Event: 1}}, {{Kind: impl.StmtEmit, Var: 1}},
	}
	for _, bad := range append(badTerms(), alone(4, 1), alone(9, 1), fact(0, 1, 1, 1, 1, 1)) {
		list = append(list, set(0, bad), get(0, bad), put(fact(0), bad), put(bad, fact(0)), assert(bad), ifElse(bad, skip(), skip()), while(bad, skip()), while(fact(0), skip(), bad), while(fact(0), skip(), fact(0), bad))
	}
	return list
}

// badGiven are no lists of facts over variables.
func badGiven() [][]impl.Term {
	list := [][]impl.Term{factsOf(fact(0), 7), factsOf(fact(0), 100000)}
	for _, bad := range append(badTerms(), alone(4, 1), alone(9, 1), fact(0, 1, 1, 1, 1, 1)) {
		list = append(list, []impl.Term{bad}, []impl.Term{fact(0), bad}, append(factsOf(fact(0), 5), bad))
	}
	return list
}

func badPrograms() []impl.Program {
	var list []impl.Program
	for _, body := range badBodies() {
		list = append(list, programOf(body))
	}
	for _, terms := range badGiven() {
		list = append(list, impl.Program{Pre: terms, Body: skip()}, impl.Program{Body: skip(), Post: terms})
	}
	return list
}

// longPrograms are programs that are much too long everywhere.
func longPrograms() []impl.Program {
	long := fact(math.MinInt64, repeated(math.MinInt64, 100000)...)
	element := impl.Stmt{Kind: impl.StmtWhile, Sum: long, Index: long, Facts: factsOf(long, 10)}
	var list []impl.Program
	for _, body := range [][]impl.Stmt{slices.Repeat([]impl.Stmt{element}, 100000), {element}, slices.Repeat([]impl.Stmt{{Kind: impl.StmtIf}}, 100000), slices.Repeat([]impl.Stmt{{Kind: impl.StmtWhile}}, 100000)} {
		list = append(list, impl.Program{Pre: factsOf(long, 1000), Body: body, Post: factsOf(long, 1000)})
	}
	return list
}

// manyStates are states with small numbers, with numbers at the limits, and mixed ones.
func manyStates() []impl.State {
	top := impl.State{Vars: repeated(1e9, 4), Cells: repeated(1e9, 8)}
	low := impl.State{Vars: repeated(-1e9, 4), Cells: repeated(-1e9, 8)}
	list := []impl.State{state(), state(1, 2, 3, 4), state(-1, 7, 8, -2), state(1e9, -1e9, 1e9, -1e9), top, low, {Vars: []int64{3, 0, 5, 7}, Cells: []int64{0, 1, 2, 3, 4, 5, 6, 7}}}
	random := rand.New(rand.NewPCG(13, 14))
	for range 6 {
		s := state()
		for i := range s.Vars {
			s.Vars[i] = random.Int64N(12) - 3
		}
		for i := range s.Cells {
			s.Cells[i] = random.Int64N(2000000001) - 1000000000
		}
		list = append(list, s)
	}
	return list
}

func badStates() []impl.State {
	vars, cells := make([]int64, 4), make([]int64, 8)
	list := []impl.State{{}, {Vars: vars}, {Cells: cells}, {Vars: vars[:3], Cells: cells}, {Vars: make([]int64, 5), Cells: cells}, {Vars: vars, Cells: cells[:7]}, {Vars: vars, Cells: make([]int64, 9)}, {Vars: cells, Cells: vars}, {Vars: make([]int64, 100000), Cells: make([]int64, 100000)}}
	for _, n := range []int64{1e9 + 1, -1e9 - 1, math.MaxInt64, math.MinInt64} {
		for i := range 4 {
			s := state()
			s.Vars[i] = n
			list = append(list, s)
		}
		for i := range 8 {
			s := state()
			s.Cells[i] = n
			list = append(list, s)
		}
	}
	return list
}
