package tests

import (
	"fmt"
	"math"
	"slices"
	"strings"
	"testing"

	"loop.example/g01105/impl"
)

func TestProveSequent(t *testing.T) {
	for _, c := range [][2]string{
		{"a-1;=>a", "c1,1"}, {"=>0", "c1"}, {"=>5", "c1"}, {"a;=>a", "c1,1"}, {"a;b;=>a+b", "c1,1,1"}, {"a-b;b-c;=>a-c", "c1,1,1"}, {"-1;=>j", "c1,0"}, {"a;-a-1;=>j", "c1,1,0"}, {"b;a-1;=>a", "c0,1,1"}, {"=>999999", "c1"},
		{"2a-1;=>a-1", "t0/c1,2,0"}, {"a;=>2a", "t1/c2,1,0"}, {"a;=>2a+1", "c2,1"}, {"2a;=>a", "c1,2"}, {"2a-2;=>a-1", "c1,2"}, {"2a-2b-1;-2a+2b+1;=>-1", "t0/t1/c1,0,0,0,2"}, {"2a-1;-2b+1;=>a-b-1", "t0/t1/c1,0,2,0,2"},
		{"2a-1;3a-2;=>a-1", "t0/c1,0,2,0"}, {"2a-1;2a-1;=>a-1", "t0/c1,0,2,0"}, {"2a-1;a-1;=>a", "c1,0,2"}, {"a-1;2a-1;=>a", "c1,0,1"}, {"2a-1;4a-3;=>a-1", "t0/c1,0,2,0"}, {"2a-1;4a-5;=>a-1", "t0/t1/c1,0,2,0,0"},
		{"-a+2b+2;-3a-b+4;=>-2a+b+2", "sb/c0,2,3,5/c2,0,1,3"}, {"-3a+2;a+2b+3;a-2b-3;2a-2b+2;-b+2;=>-a+b", "t0/sb+1/c1,0,3,0,0,0,0,6/c1,3,0,0,0,0,0,6"},
		{"3a-2b+2;3a-1;a-1;-3a-2b+4;a+2b-2;=>-3a-b+1", "s-b+1/s-b/c0,0,0,1,3,0,0,4/c0,0,3,1,0,0,0,2/c1,0,0,1,0,0,4"}, {"-a+2b+3;-a-2b+2;-2a+b+4;a+4;2a+b-3;=>a+2b-2", "sb+3/s-b+2/sb/c0,0,0,0,1,2,0,0,3/c2,0,0,0,1,0,0,0,5/c0,0,0,1,0,1,0,2/c1,0,0,1,0,0,2"},
		{"a-b;-a-b+1;a+b-1;-a+b;=>-1", "s-b/c0,0,1,1,0,2/c1,1,0,0,0,2"}, {"a+b;-a+b-1;c+d;-c+d-1;=>b+d-2", "sb-1/c0,0,1,1,2,2/c1,1,0,0,0,2"},
	} {
		isProved(t, c[0], c[1])
	}
}

func TestOpenSequents(t *testing.T) {
	for _, text := range []string{"=>-1", "=>a", "a;=>a-1", "a;=>b", "2a-1;=>a-2", "3a+b;-a-b+2;=>a-b", "a-1;-a+1;=>-1", "a;b;=>a-b", "2a-2;-2a+2;=>-1", "j;=>-j", "=>-1000000"} {
		isOpen(t, claim(text))
	}
	for _, s := range append(badSequents(), sequent(fact(1e6)), sequent(fact(1e6), fact(-1)), sequent(fact(1e6, 1), fact(-1))) {
		isOpen(t, s)
	}
}

func TestBudgets(t *testing.T) {
	for _, budget := range append([]int64{2, 3, 30, 59, 60, 61, 62}, oddNumbers()...) {
		p, ok := impl.ProveSequent(claim("2a-2b-1;-2a+2b+1;=>-1"), budget)
		if budget >= 3 && budget <= 60 {
			same(t, "proof", results(textOfNodes(p), ok), results("t0/t1/c1,0,0,0,2", true))
		} else {
			fails(t, fmt.Sprint(budget), p, ok)
		}
		valid := budget >= 1 && budget <= 60
		for _, list := range [][]impl.Sequent{nil, {claim("=>0")}} {
			proofs, ok := impl.ProveAll(list, budget)
			same(t, "ProveAll", results(len(proofs), ok), results(map[bool]int{true: len(list)}[valid], valid))
			open, ok := impl.FirstOpen(list, budget)
			same(t, "FirstOpen", results(open, ok), results(map[bool]int64{true: -1}[valid], valid))
		}
		core, ok := impl.CoreOf(claim("b;a;=>a"), budget)
		same(t, "CoreOf", results(core, ok), results(map[bool][]int64{true: {1}}[valid], valid))
		proofs, ok := impl.ProveProgram(programOf(skip()), budget)
		same(t, "ProveProgram", results(proofs, ok), results([][]impl.Node{}, valid))
	}
}

// TestFullLists adds facts to lists with MaxFacts - 1 and MaxFacts facts, by tightening and by cuts.
func TestFullLists(t *testing.T) {
	filledUp := func(text string, count int) impl.Sequent {
		s := claim(text)
		s.Facts = append(s.Facts, factsOf(fact(0), count-len(s.Facts))...)
		return s
	}
	cut, closed := "a-b;-a-b+1;a+b-1;-a+b;=>-1", strings.Repeat(",0", 8)
	for _, c := range []struct {
		text, want string
		facts      int
	}{
		{"2a-1;=>a-1", "t0/c1" + strings.Repeat(",0", 11) + ",2,0", 12}, {"2a-1;=>a-1", "", 13}, {"2a-1;-2b+1;=>a-b-1", "t0/t1/c1,0" + strings.Repeat(",0", 9) + ",2,0,2", 11}, {"2a-1;-2b+1;=>a-b-1", "", 12}, {"2a-1;-1;=>0", "", 13}, {"2a-1;-1;=>0", "t0/c0,1" + strings.Repeat(",0", 12), 12},
		{"a;=>a", "c1" + strings.Repeat(",0", 12) + ",1", 13}, {cut, "s-b/c0,0,1,1" + closed + ",0,2/c1,1,0,0" + closed + ",0,2", 12}, {cut, "", 13},
	} {
		s := filledUp(c.text, c.facts)
		if c.want == "" {
			isOpen(t, s)
			continue
		}
		p, ok := impl.ProveSequent(s, 60)
		same(t, c.text, results(textOfNodes(p), ok), results(c.want, true))
		isAccepted(t, s, p)
	}
	isOpen(t, filledUp("a;=>a", 14))
}

// TestProofsWithinLimits proves sequents whose eliminations reach their limits.
func TestProofsWithinLimits(t *testing.T) {
	full := sequent(fact(0), spread(listOf(rows59), 4, 7)...)
	p, ok := impl.ProveSequent(full, 60)
	same(t, "60 rows", results(textOfNodes(p), ok), results("c"+strings.Repeat("0,", 13)+"1", true))
	isOpen(t, sequent(fact(0), spread(listOf(rows60), 4, 7)...))
	isProved(t, "a;-1000a+b;-1000b-1;=>-1", "t2/c1000000,1000,1,0,0")
	isOpen(t, claim("a;-1000a+b;-1001b-1001;=>-1"))
	isProved(t, "2a+b;-a;-a-500000b-1;=>-1", "c500000,999999,1,0")
	isProved(t, "1000000a-1;=>a-1", "t0/c1,1000000,0")
	isProved(t, "1000000a-999999;=>a-1", "t0/c1,1000000,0")
	isProved(t, "1000000a-1000000;=>a-1", "c1,1000000")
}

func TestProveAll(t *testing.T) {
	one, two, open := claim("a-1;=>a"), claim("2a-2b-1;-2a+2b+1;=>-1"), claim("=>-1")
	cases := []struct {
		list  []impl.Sequent
		want  []string
		first int64
	}{
		{nil, nil, -1}, {[]impl.Sequent{one, two}, []string{"c1,1", "t0/t1/c1,0,0,0,2"}, -1}, {[]impl.Sequent{two, one, one}, []string{"t0/t1/c1,0,0,0,2", "c1,1", "c1,1"}, -1}, {slices.Repeat([]impl.Sequent{one}, 60), slices.Repeat([]string{"c1,1"}, 60), -1},
		{[]impl.Sequent{open}, nil, 0}, {[]impl.Sequent{open, one, open}, nil, 0}, {[]impl.Sequent{one, open, one, open}, nil, 1}, {append(slices.Repeat([]impl.Sequent{one}, 59), open), nil, 59}, {[]impl.Sequent{one, sequent(fact(1e6))}, nil, 1}, {slices.Repeat([]impl.Sequent{open}, 60), nil, 0},
	}
	for _, c := range cases {
		what := shown(sequentTexts(c.list))
		proofs, ok := impl.ProveAll(c.list, 3)
		open, found := impl.FirstOpen(c.list, 3)
		same(t, what, results(open, found), results(c.first, true))
		if c.first >= 0 {
			fails(t, what, proofs, ok)
			continue
		}
		var texts []string
		for _, p := range proofs {
			texts = append(texts, textOfNodes(p))
		}
		same(t, what, results(texts, ok), results(c.want, true))
		same(t, what, impl.AreProved(c.list, proofs), true)
	}
	proofs, ok := impl.ProveAll([]impl.Sequent{one, two, one}, 2)
	fails(t, "a budget that one needs more than", proofs, ok)
	first, ok := impl.FirstOpen([]impl.Sequent{one, two, one}, 2)
	same(t, "open for the budget", results(first, ok), results(int64(1), true))
}

func TestNoListOfSequents(t *testing.T) {
	good := claim("a-1;=>a")
	lists := [][]impl.Sequent{slices.Repeat([]impl.Sequent{good}, 61), slices.Repeat([]impl.Sequent{claim("=>-1")}, 61), slices.Repeat([]impl.Sequent{good}, 100000)}
	for _, bad := range badSequents() {
		lists = append(lists, []impl.Sequent{bad}, []impl.Sequent{good, bad, good}, []impl.Sequent{claim("=>-1"), bad})
	}
	for _, list := range lists {
		proofs, ok := impl.ProveAll(list, 60)
		fails(t, shown(list), proofs, ok)
		open, ok := impl.FirstOpen(list, 60)
		fails(t, shown(list), open, ok)
		same(t, shown(list), impl.AreProved(list, slices.Repeat([][]impl.Node{nodesOf("c1,1")}, len(list))), false)
	}
}

func TestCoreOf(t *testing.T) {
	for _, c := range []struct {
		text string
		want []int64
	}{
		{"a-1;=>a", []int64{0}}, {"=>0", nil}, {"a;=>0", nil}, {"b;a;c;=>a", []int64{1}}, {"a;b;=>a+b", []int64{0, 1}}, {"b;2a-1;=>a-1", []int64{1}}, {"2a-2b-1;-2a+2b+1;=>-1", []int64{0, 1}}, {"c;2a-1;2b-1;-a;=>0", []int64{1, 2}}, {"2a-1;a-1;=>a", []int64{0}},
		{"a;=>2a+1", []int64{0}}, {"-a+2b+2;-3a-b+4;=>-2a+b+2", []int64{0, 1}}, {"3a-2b+2;3a-1;a-1;-3a-2b+4;a+2b-2;=>-3a-b+1", []int64{0, 2, 3, 4}}, {"a+b;-a+b-1;b+c-2;b-c-2;=>b-2", []int64{2, 3}}, {"-1;-1;=>5", []int64{0}},
	} {
		core, ok := impl.CoreOf(claim(c.text), 60)
		same(t, c.text, results(core, ok), results(c.want, true))
	}
	for _, s := range append(badSequents(), claim("=>-1"), claim("a;=>b"), sequent(fact(1e6))) {
		core, ok := impl.CoreOf(s, 60)
		fails(t, shown(s), core, ok)
	}
	core, ok := impl.CoreOf(claim("2a-2b-1;-2a+2b+1;=>-1"), 2)
	fails(t, "a budget too small", core, ok)
}

func TestAreProved(t *testing.T) {
	one, two := claim("a-1;=>a"), claim("2a-1;=>a-1")
	p, q := nodesOf("c1,1"), nodesOf("t0/c0,1,1")
	cases := []struct {
		list   []impl.Sequent
		proofs [][]impl.Node
		are    bool
	}{
		{nil, nil, true}, {[]impl.Sequent{one}, [][]impl.Node{p}, true}, {[]impl.Sequent{one, two}, [][]impl.Node{p, q}, true}, {[]impl.Sequent{one, two}, [][]impl.Node{q, p}, false}, {[]impl.Sequent{one, two}, [][]impl.Node{p, p}, false}, {[]impl.Sequent{one, two}, [][]impl.Node{p}, false},
		{[]impl.Sequent{one, two}, [][]impl.Node{p, q, q}, false}, {[]impl.Sequent{one, two}, nil, false}, {nil, [][]impl.Node{p}, false}, {[]impl.Sequent{one}, [][]impl.Node{nil}, false}, {[]impl.Sequent{one, one}, [][]impl.Node{p, nodesOf("c5,5")}, true}, {[]impl.Sequent{one}, [][]impl.Node{nodesOf("c1,1/c1,1")}, false},
		{[]impl.Sequent{sequent(fact(1e6))}, [][]impl.Node{nodesOf("c1")}, false}, {[]impl.Sequent{claim("a-1;=>b")}, [][]impl.Node{p}, false}, {[]impl.Sequent{claim("=>-1")}, [][]impl.Node{nodesOf("c1")}, false}, {[]impl.Sequent{two, one, two}, [][]impl.Node{q, nodesOf("c1,2"), q}, false},
		{slices.Repeat([]impl.Sequent{one}, 60), slices.Repeat([][]impl.Node{p}, 60), true}, {slices.Repeat([]impl.Sequent{one}, 61), slices.Repeat([][]impl.Node{p}, 61), false}, {slices.Repeat([]impl.Sequent{one}, 60), slices.Repeat([][]impl.Node{p}, 59), false},
		{append(slices.Repeat([]impl.Sequent{one}, 59), two), slices.Repeat([][]impl.Node{p}, 60), false},
	}
	for i, c := range cases {
		same(t, fmt.Sprint(i), impl.AreProved(c.list, c.proofs), c.are)
	}
	for _, x := range manyProofs(100) {
		same(t, "proof", impl.AreProved([]impl.Sequent{x.S}, [][]impl.Node{x.P}), true)
		for _, changed := range changedNodes(x.P) {
			same(t, "changed", impl.AreProved([]impl.Sequent{one, x.S}, [][]impl.Node{p, changed}), impl.CheckProof(x.S, changed))
		}
	}
	for _, s := range badSequents() {
		same(t, "no sequent", impl.AreProved([]impl.Sequent{s}, [][]impl.Node{p}), false)
	}
	same(t, "numbers", impl.AreProved([]impl.Sequent{one}, [][]impl.Node{{closing(math.MaxInt64, math.MinInt64)}}), false)
}
