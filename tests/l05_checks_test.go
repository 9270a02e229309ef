package tests

import (
	"math"
	"slices"
	"strings"
	"testing"

	"loop.example/g01105/impl"
)

func TestExamplesOfChapter5(t *testing.T) {
	for _, c := range []struct{ s, p string }{{"a-1;=>a", "c1,1"}, {"2a-1;=>a-1", "t0/c0,1,1"}} {
		p, ok := impl.ReadProof(c.p)
		same(t, c.p, results(p, ok), results(nodesOf(c.p), true))
		text, ok := impl.ProofText(p)
		same(t, c.p, results(text, ok), results(c.p, true))
		isAccepted(t, claim(c.s), p)
	}
	context, ok := impl.ContextAt(claim("2a-1;=>a-1"), nodesOf("t0/c0,1,1"), 1)
	same(t, "the tightened fact", results(context, ok), results(termsOf("2a-1", "-a", "a-1"), true))
}

// TestRightClose tries multipliers with contexts: sums of any size, with and without symbols.
func TestRightClose(t *testing.T) {
	one, many := sequent(fact(-1)), sequent(fact(-1), factsOf(fact(0), 13)...)
	cases := []struct {
		s     impl.Sequent
		p     []impl.Node
		right bool
	}{
		{claim("a-1;=>a"), nodesOf("c1,1"), true}, {claim("a-1;=>a"), nodesOf("c1,2"), false}, {claim("a-1;=>a"), nodesOf("c2,1"), false}, {claim("a-1;=>a"), nodesOf("c0,0"), false}, {claim("a-1;=>a"), nodesOf("c1"), false}, {claim("a-1;=>a"), nodesOf("c"), false}, {claim("a-1;=>a"), nodesOf("c1,1,0"), false}, {claim("a-1;=>a"), nodesOf("c1,1,1"), false},
		{claim("a;=>a+1"), nodesOf("c1,1"), true}, {claim("a;=>a"), nodesOf("c1,1"), true}, {claim("a;=>a-1"), nodesOf("c1,1"), false}, {claim("a+1;=>a-1"), nodesOf("c1,1"), false}, {claim("a;-a-1;=>a"), nodesOf("c1,1,0"), true}, {claim("a;-a;=>-1"), nodesOf("c1,1,0"), false}, {claim("a;-a;=>-1"), nodesOf("c1,1,1"), false},
		{claim("=>0"), nodesOf("c1"), true}, {claim("=>-1"), nodesOf("c1"), false}, {claim("=>-2"), nodesOf("c1"), false}, {claim("=>5"), nodesOf("c0"), false}, {claim("=>5"), nodesOf("c"), false}, {claim("=>5"), nodesOf("c1,0"), false}, {claim("-1;=>j"), nodesOf("c1,0"), true}, {claim("-1;=>j"), nodesOf("c1,1"), false}, {claim("=>a"), nodesOf("c0"), false}, {claim("=>a"), nodesOf("c1"), false},
		{claim("-1000000;=>a"), nodesOf("c1000000,0"), true}, {claim("=>999999"), nodesOf("c1000000"), true}, {claim("1000000a-1000000;=>1000000a+999999"), nodesOf("c1000000,1000000"), true}, {claim("1000000a+1000000;=>1000000a-1000000"), nodesOf("c1000000,1000000"), false},
		{claim("1000000a;-999999a-1;=>0"), nodesOf("c999999,1000000,0"), true}, {claim("1000000a;-999999a-1;=>0"), nodesOf("c1000000,1000000,0"), false}, {claim("1000000j-1;-1000000j;=>0"), nodesOf("c1000000,1000000,0"), true}, {claim("1000000j-1;-1000000j;=>0"), nodesOf("c1000000,999999,0"), false},
		{claim("-1000000;a;=>0"), nodesOf("c1000000,1,0"), false}, {claim("-1000000;j;=>0"), nodesOf("c1000000,1,0"), false}, {claim("-1;a+b;-a;=>0"), nodesOf("c1,1,1,0"), false}, {claim("-1;a+b;-a;-b;=>0"), nodesOf("c1,1,1,1,0"), true}, {claim("4295;a-1000000;-a;=>0"), nodesOf("c1000000,1000000,1000000,0"), true},
		{one, nodesOf("c0"), false}, {many, []impl.Node{closing(repeated(1, 14)...)}, false}, {sequent(fact(0), many.Facts...), []impl.Node{closing(repeated(1, 14)...)}, true}, {sequent(fact(0), many.Facts...), []impl.Node{closing(repeated(1, 13)...)}, false}, {sequent(fact(0), many.Facts...), []impl.Node{closing(repeated(1, 15)...)}, false},
		{sequent(fact(999999, repeated(1e6, 10)...), factsOf(fact(-1e6, repeated(1e6, 10)...), 13)...), []impl.Node{closing(append(repeated(0, 12), 1e6, 1e6)...)}, true}, {sequent(fact(999999, repeated(1e6, 10)...), factsOf(fact(-1e6, repeated(1e6, 10)...), 13)...), []impl.Node{closing(repeated(1e6, 14)...)}, false},
		{sequent(fact(0), factsOf(fact(-1e6), 13)...), []impl.Node{closing(repeated(1e6, 14)...)}, true}, {sequent(fact(0), factsOf(fact(1e6), 13)...), []impl.Node{closing(repeated(1e6, 14)...)}, false},
	}
	for _, c := range cases {
		if examinedAgain(t, c.s, c.p); c.right {
			isAccepted(t, c.s, c.p)
		} else {
			isRefused(t, c.s, c.p, 0)
		}
	}
}

// TestRightSplit looks at the facts that a split adds, and at terms without a valid opposite.
func TestRightSplit(t *testing.T) {
	s := claim("2a-1;-2a+1;=>-1")
	p := nodesOf("sa-1/c0,1,0,2/c1,0,0,2")
	isAccepted(t, s, p)
	for k, want := range [][]impl.Term{termsOf("2a-1", "-2a+1", "0"), termsOf("2a-1", "-2a+1", "0", "a-1"), termsOf("2a-1", "-2a+1", "0", "-a")} {
		context, ok := impl.ContextAt(s, p, int64(k))
		same(t, "context", results(context, ok), results(want, true))
	}
	for _, x := range []impl.Term{fact(999999), fact(-1e6), fact(999999, repeated(-1e6, 10)...), fact(-1e6, repeated(1e6, 10)...)} {
		isRefused(t, s, []impl.Node{splitting(x), closing(), closing()}, 1)
		context, ok := impl.ContextAt(s, []impl.Node{splitting(x), closing(), closing()}, 2)
		same(t, "context", results(context, ok), results(append(termsOf("2a-1", "-2a+1", "0"), oppositeAgain(x)), true))
	}
	for _, x := range []impl.Term{fact(1e6), fact(1e6, 1), fact(1e6, repeated(-1e6, 10)...)} {
		p := []impl.Node{splitting(x), closing(), closing()}
		isRefused(t, s, p, 0)
		for k := int64(1); k <= 2; k++ {
			context, ok := impl.ContextAt(s, p, k)
			fails(t, "in a flaw", context, ok)
		}
	}
}

// TestRightTighten looks at the fact that a tightening adds, and at facts and indices that have none.
func TestRightTighten(t *testing.T) {
	s := claim("4a-6b+7;a;3;-5j-1;=>2c+1")
	for k, want := range map[int64]string{0: "2a-3b+3", 3: "-j-1", 4: "-c-1"} {
		p := []impl.Node{tightening(k), closing()}
		isRefused(t, s, p, 1)
		context, ok := impl.ContextAt(s, p, 1)
		same(t, want, results(context, ok), results(termsOf("4a-6b+7", "a", "3", "-5j-1", "-2c-2", want), true))
	}
	for _, k := range []int64{1, 2, 5, 6, 18, 19} {
		p := []impl.Node{tightening(k), closing()}
		isRefused(t, s, p, 0)
		context, ok := impl.ContextAt(s, p, 1)
		fails(t, "in a flaw", context, ok)
	}
	twice := nodesOf("t0/t0/t1/c0,0,0,0,0")
	isRefused(t, claim("2a-1;=>a"), twice, 2)
	added := nodesOf("s6a-9/t2/sb/t3/c0,0,0,0,0/c/c")
	context, ok := impl.ContextAt(claim("b;=>b"), added, 2)
	same(t, "a tightened term of a split", results(context, ok), results(termsOf("b", "-b-1", "6a-9", "a-2"), true))
	isRefused(t, claim("b;=>b"), added, 3)
}

// TestFullContext has contexts with 19 and 20 facts at a split, a tightening and a close.
func TestFullContext(t *testing.T) {
	for _, count := range []int{0, 1, 7, 13} {
		s := sequent(fact(-1, 2), slices.Concat(factsOf(fact(-1, -2), count))...)
		for _, adds := range []impl.Node{tightening(0), splitting(fact(0))} {
			for depth := 18 - count; depth <= 20-count; depth++ {
				p, k := chain(adds, depth, count+1)
				examinedAgain(t, s, p)
				context, ok := impl.ContextAt(s, p, k)
				if depth <= 19-count {
					same(t, "context", results(len(context), ok), results(count+1+depth, true))
				} else {
					fails(t, "more than 20 facts", context, ok)
					isRefused(t, s, p, int64(depth)-1)
				}
			}
		}
	}
}

// chain returns a proof with nodes of one kind, each inside of the one before it, and the index of the innermost close.
func chain(n impl.Node, depth, context int) ([]impl.Node, int64) {
	var before, behind []impl.Node
	for range depth {
		before = append(before, n)
		behind = append(behind, slices.Repeat([]impl.Node{closing()}, behindNode(n)-1)...)
	}
	return slices.Concat(before, []impl.Node{closing(repeated(0, min(20, context+depth))...)}, behind), int64(depth)
}

// TestAcceptedLimits has accepted proofs with MaxNodes nodes and with contexts of MaxContext facts.
func TestAcceptedLimits(t *testing.T) {
	for _, count := range []int{0, 1, 13} {
		s := sequent(fact(0), factsOf(fact(0, 2), count)...)
		isAccepted(t, s, splitsOf(count, 29))
		if count > 0 {
			isAccepted(t, s, append([]impl.Node{tightening(0)}, evenSplits(count, 29, count+2)...))
			same(t, "61 nodes", impl.CheckProof(s, append(nodesOf("t0/t0"), evenSplits(count, 29, count+3)...)), false)
		}
		same(t, "61 nodes", impl.CheckProof(s, splitsOf(count, 30)), false)
		deep := []impl.Node{closing(append(repeated(0, count), append([]int64{1}, repeated(0, 19-count)...)...)...)}
		for context := 19; context > count; context-- {
			part := closing(append(repeated(0, count), append([]int64{1}, repeated(0, context-count)...)...)...)
			deep = slices.Concat([]impl.Node{splitting(alone(0, 1))}, deep, []impl.Node{part})
		}
		isAccepted(t, s, deep)
		last := int64(19 - count)
		context, ok := impl.ContextAt(s, deep, last)
		same(t, "20 facts", results(len(context), ok), results(20, true))
	}
}

// TestFlaws looks at several flaws, at nodes in the subproofs of a flaw, and at nodes beside it.
func TestFlaws(t *testing.T) {
	cases := []struct {
		s, p string
		flaw int64
		// with has the indices of the nodes with a context.
		with []int64
	}{
		{"a-1;=>a", "c1,2", 0, []int64{0}}, {"a-1;=>a", "sb/c0,0,0/c1,1,0", 1, []int64{0, 1, 2}}, {"a-1;=>a", "sb/c1,1,0/c0,0,0", 2, []int64{0, 1, 2}}, {"a-1;=>a", "sb/c0,0,0/c0,0,0", 1, []int64{0, 1, 2}}, {"a-1;=>a", "s1000000/c1,1,0/c1,1,0", 0, []int64{0}},
		{"a-1;=>a", "t0/c1,1,0", 0, []int64{0}}, {"a-1;=>a", "sb/t0/c1,1,0/c0,0,0", 1, []int64{0, 1, 3}}, {"a-1;=>a", "sb/t0/t1/t2/c1,1,0/c1,1,0", 1, []int64{0, 1, 5}}, {"a-1;=>a", "sb/sc/c/c1,1,0,0/t9/c", 2, []int64{0, 1, 2, 3, 4}}, {"a-1;=>a", "sb/sc/c1,1,0,0/c/t9/c", 3, []int64{0, 1, 2, 3, 4}},
		{"a-1;=>a", "sb/sc/c1,1,0,0/c1,1,0,0/t9/c", 4, []int64{0, 1, 2, 3, 4}}, {"a-1;=>a", "sb/s1000000/sb/c/c/t0/c/sc/c1,1,0,0/c", 1, []int64{0, 1, 7, 8, 9}}, {"a-1;=>a", "sb/sc/c1,1,0,0/c1,1,0,0/sd/c1,1,0,0/s1000000/c/c", 6, []int64{0, 1, 2, 3, 4, 5, 6}},
		{"2a-1;=>a", "t0/t1/c", 1, []int64{0, 1}}, {"2a-1;=>a", "t0/t0/c", 2, []int64{0, 1, 2}}, {"2a-1;=>a", "sb/t0/t9/sa/c/c/t0/t0/t0/c0", 2, []int64{0, 1, 2, 6, 7, 8, 9}},
	}
	for _, c := range cases {
		s, p := claim(c.s), nodesOf(c.p)
		isRefused(t, s, p, c.flaw)
		var with []int64
		for k := range p {
			if _, ok := impl.ContextAt(s, p, int64(k)); ok {
				with = append(with, int64(k))
			}
		}
		same(t, c.p, with, c.with)
		examinedAgain(t, s, p)
	}
}

// TestNoExamination has sequents without a context, lists of nodes that are no proofs, and indices of no nodes.
func TestNoExamination(t *testing.T) {
	try := func(s impl.Sequent, p []impl.Node) {
		t.Helper()
		same(t, shown(p), impl.CheckProof(s, p), false)
		flaw, ok := impl.FirstFlaw(s, p)
		fails(t, shown(p), flaw, ok)
		for k := int64(-1); k < 3; k++ {
			context, ok := impl.ContextAt(s, p, k)
			fails(t, shown(p), context, ok)
		}
	}
	for _, s := range append(badSequents(), sequent(fact(1e6)), sequent(fact(1e6, 1)), sequent(fact(1e6), fact(-1)), sequent(fact(1e6), factsOf(fact(0), 13)...)) {
		for _, p := range [][]impl.Node{nodesOf("c1"), nodesOf("c1,0"), nodesOf("c0,1"), nodesOf("sa/c0,1,0/c0,1,0"), nodesOf("t0/c"), {closing(append([]int64{1}, repeated(0, 13)...)...)}} {
			try(s, p)
		}
	}
	for _, p := range badProofs() {
		try(claim("-1;=>0"), p)
		try(sequent(fact(0)), p)
	}
	s, p := claim("2a-1;-2a+1;=>-1"), nodesOf("sa-1/c0,1,0,2/c1,0,0,2")
	for _, k := range []int64{-1, 3, 4, math.MaxInt64, math.MinInt64, 1 << 32} {
		context, ok := impl.ContextAt(s, p, k)
		fails(t, "index", context, ok)
	}
	context, ok := impl.ContextAt(claim("a-1;=>a"), nodesOf("c1,1"), 0)
	same(t, "one node", results(context, ok), results(termsOf("a-1", "-a-1"), true))
}

// trivialAgain tries the multipliers in the order of the document, with the exact check.
func trivialAgain(s impl.Sequent) ([]impl.Node, bool) {
	if !impl.ValidSequent(s) || s.Goal.Const == 1e6 {
		return nil, false
	}
	context := contextAgain(s)
	goal := len(s.Facts)
	for try := range 2*goal + 1 {
		multipliers := make([]int64, len(context))
		switch {
		case try == 0:
			multipliers[goal] = 1
		case try <= goal:
			multipliers[try-1] = 1
		default:
			multipliers[goal], multipliers[try-goal-1] = 1, 1
		}
		if rightAgain(context, closing(multipliers...)) {
			return []impl.Node{closing(multipliers...)}, true
		}
	}
	return nil, false
}

func isTrivial(t *testing.T, s impl.Sequent) bool {
	t.Helper()
	p, ok := impl.TrivialProof(s)
	want, exists := trivialAgain(s)
	same(t, shown(s), results(p, ok), results(want, exists))
	same(t, shown(s), impl.CheckProof(s, p), exists)
	return exists
}

func TestTrivialProof(t *testing.T) {
	for text, want := range map[string]string{
		"a;=>a+1": "c1,1", "=>0": "c1", "a;=>a": "c1,1", "a;=>a-1": "", "=>-1": "", "=>a": "", "=>7": "c1", "-1;=>0": "c0,1", "-1;=>a": "c1,0", "-1;-1;=>a": "c1,0,0", "0;-1;-2;=>a": "c0,1,0,0", "a;-1;=>a": "c0,1,0", "a;a;=>a": "c1,0,1", "b;a;a;=>a": "c0,1,0,1", "-1;a;=>0": "c0,0,1",
		"a;-a-1;=>b": "", "-a-1;=>b": "", "2a;=>a": "", "a;=>2a": "", "2a-1;=>2a": "c1,1", "a;b;=>a+b": "", "a+b;=>a+b": "c1,1", "a+b+1;a+b;=>a+b": "c0,1,1", "-1000000;=>j": "c1,0", "-1000000a-1000000;=>-1000000a+999999": "c1,1", "0;0;=>0": "c0,0,1", "a;0;=>a": "c1,0,1", "1;=>-1": "", "-1;=>-2": "c1,0", "1;=>-2": "",
	} {
		p, ok := impl.TrivialProof(claim(text))
		if isTrivial(t, claim(text)); want == "" {
			fails(t, text, p, ok)
		} else {
			same(t, text, results(p, ok), results(nodesOf(want), true))
		}
	}
	most := sequent(alone(9, 1), append(factsOf(fact(0), 12), alone(9, 1))...)
	p, ok := impl.TrivialProof(most)
	same(t, "13 facts", results(textOfNodes(p), ok), results("c"+strings.Repeat("0,", 12)+"1,1", true))
	for _, s := range append(badSequents(), sequent(fact(1e6)), sequent(fact(1e6), fact(-1)), sequent(fact(1e6, 1), fact(0, 1))) {
		p, ok := impl.TrivialProof(s)
		fails(t, shown(s), p, ok)
	}
	count := 0
	for _, s := range validSequents() {
		isTrivial(t, s)
	}
	for _, x := range manyProofs(400) {
		if isTrivial(t, x.S) {
			count++
		}
	}
	same(t, "many trivial proofs", count > 30, true)
}
