package tests

import (
	"fmt"
	"math"
	"slices"
	"strings"
	"testing"

	"loop.example/g01105/impl"
)

// labelled returns a text for each node of an accepted proof in which facts have names instead of indices: those of the first context, and others for facts that a node adds.
func labelled(t *testing.T, p []impl.Node, first ...string) []string {
	t.Helper()
	all, ok := branchesAgain(p)
	same(t, "one proof", ok, true)
	texts := nodeTexts(p)
	for at, n := range p {
		names := slices.Clone(first)
		for _, b := range all[at] {
			names = append(names, fmt.Sprint("node ", b.at))
		}
		switch n.Kind {
		case impl.ProofTighten:
			texts[at] = "tighten with " + names[n.Fact]
		case impl.ProofClose:
			same(t, "multipliers", len(n.Multipliers), len(names))
			var used []string
			for i, m := range n.Multipliers {
				if m != 0 {
					used = append(used, fmt.Sprint(names[i], " times ", m))
				}
			}
			slices.Sort(used)
			texts[at] = "close with " + strings.Join(used, " and ")
		}
	}
	return texts
}

// namesOf returns names for the facts of a sequent, and the one of the opposite of its goal.
func namesOf(s impl.Sequent) []string {
	var names []string
	for i := range s.Facts {
		names = append(names, fmt.Sprint("fact ", i))
	}
	return append(names, "goal")
}

// usedAgain looks for the names of facts in the labelled nodes.
func usedAgain(t *testing.T, s impl.Sequent, p []impl.Node) []int64 {
	t.Helper()
	texts := strings.Join(labelled(t, p, namesOf(s)...), " ") + " "
	var used []int64
	for i, name := range namesOf(s) {
		if strings.Contains(texts, " "+name+" ") {
			used = append(used, int64(i))
		}
	}
	return used
}

func TestUsedFacts(t *testing.T) {
	cases := []struct {
		s, p string
		used []int64
	}{
		{"b;a-1;=>a", "c0,1,1", []int64{1, 2}}, {"2a-1;=>a-1", "t0/c0,1,1", []int64{0, 1}}, {"2a-1;-2a+1;=>-1", "sa-1/c0,1,0,2/c1,0,0,2", []int64{0, 1}}, {"-1;=>j", "c1,0", []int64{0}}, {"=>0", "c1", []int64{0}}, {"a;b;-1;=>0", "c0,0,0,1", []int64{3}},
		{"a;a;=>a", "c1,0,1", []int64{0, 2}}, {"a;a;=>a", "c0,1,1", []int64{1, 2}}, {"a;a;=>a", "c1,1,2", []int64{0, 1, 2}}, {"a;2b;=>a", "t1/c1,0,1,0", []int64{0, 1, 2}}, {"a;2b;=>a", "sb/c1,0,1,0/c1,0,1,0", []int64{0, 2}}, {"a;2b;=>a", "sc/c1,0,1,0/t1/c1,0,1,0,0", []int64{0, 1, 2}},
		{"a;a;=>a", "sb/c1,0,1,0/c0,1,1,0", []int64{0, 1, 2}}, {"2a-1;-2a+1;=>-1", "t0/t1/c0,0,0,1,1", []int64{0, 1}}, {"2b;-1;=>2a", "t2/c0,1,0,0", []int64{1, 2}}, {"2b;-1;=>a", "t0/t0/c0,1,0,0,0", []int64{0, 1}}, {"c;-1;=>a", "s2b/t3/c0,1,0,0,0/t3/c0,1,0,0,0", []int64{1}}, {"-1;=>-1", "s0/c1,0,0/c0,0,1", []int64{0}}, {"c;-1;=>-1", "s0/c0,1,0,0/c0,0,0,1", []int64{1}},
	}
	for _, c := range cases {
		s, p := claim(c.s), nodesOf(c.p)
		used, ok := impl.UsedFacts(s, p)
		same(t, c.s+" "+c.p, results(used, ok), results(c.used, true))
	}
	for _, x := range manyProofs(400) {
		used, ok := impl.UsedFacts(x.S, x.P)
		same(t, textOfNodes(x.P), results(used, ok), results(usedAgain(t, x.S, x.P), true))
	}
	most := proved{sequent(fact(0), factsOf(fact(-1), 13)...), []impl.Node{closing(repeated(1e6, 14)...)}}
	used, ok := impl.UsedFacts(most.S, most.P)
	same(t, "14 facts", results(used, ok), results([]int64{0, 1, 2, 3, 4, 5, 6, 7, 8, 9, 10, 11, 12, 13}, true))
}

func isDropped(t *testing.T, s impl.Sequent, p []impl.Node) int {
	t.Helper()
	var want impl.Sequent
	var names []string
	used := usedAgain(t, s, p)
	for i, x := range s.Facts {
		if slices.Contains(used, int64(i)) {
			want.Facts = append(want.Facts, x)
			names = append(names, namesOf(s)[i])
		}
	}
	want.Goal = s.Goal
	less, q, ok := impl.DropUnused(s, p)
	same(t, textOfNodes(p), results(less, ok), results(want, true))
	same(t, textOfNodes(p), labelled(t, q, append(names, "goal")...), labelled(t, p, namesOf(s)...))
	isAccepted(t, less, q)
	return len(s.Facts) - len(less.Facts)
}

func TestDropUnused(t *testing.T) {
	for _, c := range [][4]string{
		{"b;a-1;=>a", "c0,1,1", "a-1;=>a", "c1,1"}, {"2a-1;-2a+1;=>-1", "sa-1/c0,1,0,2/c1,0,0,2", "2a-1;-2a+1;=>-1", "sa-1/c0,1,0,2/c1,0,0,2"}, {"-1;=>j", "c1,0", "-1;=>j", "c1,0"}, {"a;b;=>0", "c0,0,1", "=>0", "c1"}, {"a;2b;c;a;=>a", "t1/c0,0,0,1,1,0", "2b;a;=>a", "t0/c0,1,1,0"},
		{"c;2a-1;c;-2a+1;c;=>b", "t1/t3/c0,0,0,0,0,0,1,1", "2a-1;-2a+1;=>b", "t0/t1/c0,0,0,1,1"}, {"c;2a-1;c;=>a-1", "t1/c0,0,0,1,1", "2a-1;=>a-1", "t0/c0,1,1"}, {"c;b;-1;=>2a", "t3/s4a/t5/c0,0,1,0,0,0,0/c0,0,1,0,0,0", "-1;=>2a", "t1/s4a/t3/c1,0,0,0,0/c1,0,0,0"}, {"a;a;=>a", "sb/c1,0,1,0/c0,1,1,0", "a;a;=>a", "sb/c1,0,1,0/c0,1,1,0"},
		{"c;a;=>2a+1", "t2/c0,1,0,1", "a;=>2a+1", "t1/c1,0,1"}, {"c;d;=>7", "s2b/t3/c0,0,1,0,0/c0,0,1,0", "=>7", "s2b/t1/c1,0,0/c1,0"},
	} {
		s, p := claim(c[0]), nodesOf(c[1])
		less, q, ok := impl.DropUnused(s, p)
		same(t, c[1], results(less, q, ok), results(claim(c[2]), nodesOf(c[3]), true))
		isDropped(t, s, p)
	}
	counts := map[int]int{}
	for _, x := range manyProofs(400) {
		counts[isDropped(t, x.S, x.P)]++
	}
	same(t, "facts that are not used", counts[0] > 20 && counts[1] > 20 && counts[2] > 20, true)
	full := sequent(fact(0), factsOf(fact(0, 2), 13)...)
	less, q, ok := impl.DropUnused(full, append([]impl.Node{tightening(12)}, evenSplits(13, 29, 15)...))
	same(t, "60 nodes", results(less, q, ok), results(sequent(fact(0), fact(0, 2)), append([]impl.Node{tightening(0)}, evenSplits(1, 29, 3)...), true))
}

func isLifted(t *testing.T, s impl.Sequent, p []impl.Node, extra []impl.Term) {
	t.Helper()
	wide, q, ok := impl.LiftProof(s, p, extra)
	same(t, textOfNodes(p), results(wide, ok), results(sequent(s.Goal, slices.Concat(s.Facts, extra)...), true))
	names := namesOf(s)
	for i := range extra {
		names = slices.Insert(names, len(names)-1, fmt.Sprint("extra ", i))
	}
	same(t, textOfNodes(p), labelled(t, q, names...), labelled(t, p, namesOf(s)...))
	isAccepted(t, wide, q)
}

func TestLiftProof(t *testing.T) {
	for _, c := range []struct {
		s, p         string
		extra        []impl.Term
		lifted, want string
	}{
		{"2a-1;-2a+1;=>-1", "sa-1/c0,1,0,2/c1,0,0,2", termsOf("b"), "2a-1;-2a+1;b;=>-1", "sa-1/c0,1,0,0,2/c1,0,0,0,2"}, {"a-1;=>a", "c1,1", nil, "a-1;=>a", "c1,1"}, {"a-1;=>a", "c1,1", []impl.Term{}, "a-1;=>a", "c1,1"}, {"a-1;=>a", "c1,1", termsOf("0", "-1"), "a-1;0;-1;=>a", "c1,0,0,1"}, {"=>0", "c1", termsOf("j"), "j;=>0", "c0,1"},
		{"a;=>2a+1", "t1/c1,0,1", termsOf("b", "c"), "a;b;c;=>2a+1", "t3/c1,0,0,0,1"}, {"2a-1;=>a-1", "t0/c0,1,1", termsOf("b"), "2a-1;b;=>a-1", "t0/c0,0,1,1"}, {"=>0", "s2b/t1/c1,0,0/c1,0", termsOf("a"), "a;=>0", "s2b/t2/c0,1,0,0/c0,1,0"}, {"a;=>a", "c1,1", termsOf("1000000a-1000000"), "a;1000000a-1000000;=>a", "c1,0,1"},
	} {
		wide, q, ok := impl.LiftProof(claim(c.s), nodesOf(c.p), c.extra)
		same(t, c.p, results(wide, q, ok), results(claim(c.lifted), nodesOf(c.want), true))
	}
	for i, x := range manyProofs(400) {
		isLifted(t, x.S, x.P, validTerms()[i%40:][:i%9])
	}
}

// TestLiftLimits lifts to the limits of facts and contexts, and beyond them.
func TestLiftLimits(t *testing.T) {
	s := sequent(fact(0), factsOf(fact(0, 2), 5)...)
	lifts := func(p []impl.Node, count int, want bool) {
		t.Helper()
		if isAccepted(t, s, p); want {
			isLifted(t, s, p, factsOf(alone(3, -5), count))
			return
		}
		wide, q, ok := impl.LiftProof(s, p, factsOf(alone(3, -5), count))
		fails(t, fmt.Sprint(count, " facts more"), wide, q, ok)
	}
	plain := splitsOf(5, 0)
	lifts(plain, 8, true)
	for _, count := range []int{9, 10, 14, 15, 100000} {
		lifts(plain, count, false)
	}
	lifts(splitsOf(5, 29), 8, true)
	lifts(append([]impl.Node{tightening(0)}, evenSplits(5, 29, 7)...), 7, true)
	deep := []impl.Node{closing(append(repeated(0, 5), append([]int64{1}, repeated(0, 8)...)...)...)}
	for range 8 {
		deep = append([]impl.Node{tightening(4)}, deep...)
	}
	for count := range 9 {
		lifts(deep, count, count <= 6)
	}
	deep = slices.Concat(nodesOf("sa"), evenSplits(5, 0, 7), deep)
	deep[len(deep)-1].Multipliers = append(deep[len(deep)-1].Multipliers, 0)
	for count := range 9 {
		lifts(deep, count, count <= 5)
	}
	inner := nodesOf("s2b/t6/t6/t6/c0,0,0,0,0,1,0,0,0,0/c0,0,0,0,0,1,0")
	for count := range 9 {
		lifts(inner, count, true)
	}
	ends := slices.Concat(slices.Repeat(nodesOf("sa"), 14), []impl.Node{closing(append(repeated(0, 5), append([]int64{1}, repeated(0, 14)...)...)...)})
	for context := 20; context > 6; context-- {
		ends = append(ends, closing(append(repeated(0, 5), append([]int64{1}, repeated(0, context-6)...)...)...))
	}
	lifts(ends, 0, true)
	lifts(ends, 1, false)
	lifts(ends, 8, false)
}

func TestLiftFails(t *testing.T) {
	s, p := claim("a-1;=>a"), nodesOf("c1,1")
	for _, bad := range append(badLists(), []impl.Term{fact(1), fact(0, 0), fact(1)}) {
		wide, q, ok := impl.LiftProof(s, p, bad)
		fails(t, shown(bad), wide, q, ok)
	}
}

// TestChangesNeedAcceptedProofs has sequents and proofs that CheckProof refuses.
func TestChangesNeedAcceptedProofs(t *testing.T) {
	try := func(s impl.Sequent, p []impl.Node) {
		t.Helper()
		used, ok := impl.UsedFacts(s, p)
		fails(t, shown(p), used, ok)
		less, q, ok := impl.DropUnused(s, p)
		fails(t, shown(p), less, q, ok)
		for _, extra := range [][]impl.Term{nil, termsOf("b")} {
			wide, q, ok := impl.LiftProof(s, p, extra)
			fails(t, shown(p), wide, q, ok)
		}
		for _, lemma := range []impl.Term{s.Goal, fact(0), fact(-1)} {
			q, ok = impl.JoinProofs(s, lemma, p, p)
			fails(t, shown(p), q, ok)
		}
	}
	for _, c := range [][2]string{{"a-1;=>a", "c1,2"}, {"a-1;=>a", "c1"}, {"a-1;=>a", "c1,1,0"}, {"=>-1", "c1"}, {"a-1;=>a", "sb/c1,1,0/c0,0,0"}, {"a-1;=>a", "sb/c0,0,0/c1,1,0"}, {"a-1;=>a", "t0/c1,1,0"}, {"a-1;=>a", "s1000000/c1,1,0/c1,1,0"}, {"a-1;=>a", "sb/c1,1,0"}, {"a-1;=>a", "c1,1/c1,1"}} {
		try(claim(c[0]), nodesOf(c[1]))
	}
	for _, p := range badProofs() {
		try(claim("-1;=>0"), p)
	}
	for _, s := range append(badSequents(), sequent(fact(1e6)), sequent(fact(1e6), fact(-1)), sequent(fact(1e6, 1), fact(-1))) {
		for _, p := range [][]impl.Node{nodesOf("c1"), nodesOf("c1,0"), nodesOf("c0,1"), {closing(append([]int64{1}, repeated(0, 14)...)...)}} {
			try(s, p)
		}
	}
	for _, x := range manyProofs(60) {
		for _, p := range changedNodes(x.P) {
			used, one := impl.UsedFacts(x.S, p)
			less, q, two := impl.DropUnused(x.S, p)
			wide, r, three := impl.LiftProof(x.S, p, termsOf("b"))
			if impl.CheckProof(x.S, p) {
				same(t, textOfNodes(p), []bool{one, two, three}, []bool{true, true, true})
			} else {
				fails(t, textOfNodes(p), used, one)
				fails(t, textOfNodes(p), less, q, two)
				fails(t, textOfNodes(p), wide, r, three)
			}
		}
	}
}

func isJoined(t *testing.T, x joined) {
	t.Helper()
	all, ok := impl.JoinProofs(x.S, x.Lemma, x.P, x.Q)
	if same(t, "JoinProofs", ok, true); !ok {
		return
	}
	same(t, "the first node", results(all[0]), results(splitting(x.Lemma)))
	same(t, "nodes", len(all), 1+len(x.P)+len(x.Q))
	facts := namesOf(x.S)[:len(x.S.Facts)]
	first, second := all[1:1+len(x.Q)], all[1+len(x.Q):]
	same(t, "with the lemma", labelled(t, first, append(slices.Clone(facts), "goal", "lemma")...), labelled(t, x.Q, append(slices.Clone(facts), "lemma", "goal")...))
	same(t, "of the lemma", labelled(t, second, append(slices.Clone(facts), "goal", "lemma")...), labelled(t, x.P, append(slices.Clone(facts), "lemma")...))
	isAccepted(t, x.S, all)
}

func TestJoinProofs(t *testing.T) {
	for _, c := range []struct{ s, lemma, p, q, want string }{
		{"a-1;=>a+1", "a", "c1,1", "c0,1,1", "sa/c0,1,1/c1,0,1"}, {"=>a", "0", "c1", "sb/c1,0,1/c", ""}, {"-1;=>a", "b", "c1,0", "c1,0,0", "sb/c1,0,0/c1,0,0"}, {"=>0", "5", "c1", "c0,1", "s5/c1,0/c0,1"}, {"a;=>a", "a", "c1,1", "c0,1,1", "sa/c0,1,1/c1,0,1"}, {"a;=>a", "a", "c1,1", "c1,0,1", "sa/c1,1,0/c1,0,1"},
		{"a;=>6a+1", "2a+1", "t1/c1,0,1", "t2/c1,0,0,1", "s2a+1/t1/c1,0,0,1/t2/c1,0,0,1"}, {"a;=>2a+1", "4a+3", "t1/c1,0,1", "t2/c1,0,0,1", "s4a+3/t1/c1,0,0,1/t2/c1,0,0,1"}, {"a;=>a", "4a", "t1/c1,0,1", "t1/c0,0,1,1", "s4a/t2/c0,1,0,1/t2/c1,0,0,1"}, {"a;=>2a+1", "4a", "t1/c1,0,1", "t1/t2/c0,0,0,1,1", "s4a/t2/t1/c0,0,0,1,1/t2/c1,0,0,1"},
		{"2a-1;=>a-1", "a-1", "t0/c0,1,1", "c0,1,1", "sa-1/c0,1,1/t0/c0,0,1,1"}, {"2a-1;=>a-1", "b", "t0/c0,1,1", "t0/c0,0,1,1", ""}, {"b;=>0", "7", "sb/c0,1,0/c0,1,0", "s2b/t3/c0,0,1,0,0/c0,0,1,0", "s7/s2b/t3/c0,1,0,0,0/c0,1,0,0/sb/c0,0,1,0/c0,0,1,0"},
	} {
		p, ok := impl.JoinProofs(claim(c.s), termOf(c.lemma), nodesOf(c.p), nodesOf(c.q))
		if c.want == "" {
			fails(t, c.s, p, ok)
			continue
		}
		same(t, c.s, results(textOfNodes(p), ok), results(c.want, true))
		isJoined(t, joined{claim(c.s), termOf(c.lemma), nodesOf(c.p), nodesOf(c.q)})
	}
	for _, x := range manyJoined(200) {
		isJoined(t, x)
	}
}

// TestJoinLimits joins proofs whose nodes, facts and contexts reach the limits, and pass them by one.
func TestJoinLimits(t *testing.T) {
	joins := func(count int, p, q []impl.Node, want bool) {
		t.Helper()
		x := joined{sequent(fact(0), factsOf(fact(0, 2), count)...), fact(7), p, q}
		isAccepted(t, sequent(x.Lemma, x.S.Facts...), p)
		if impl.ValidSequent(withLemma(x.S, x.Lemma)) {
			isAccepted(t, withLemma(x.S, x.Lemma), q)
		}
		if want {
			isJoined(t, x)
			return
		}
		all, ok := impl.JoinProofs(x.S, x.Lemma, x.P, x.Q)
		fails(t, fmt.Sprint(count, len(p), len(q)), all, ok)
	}
	joins(12, splitsOf(12, 0), splitsOf(13, 0), true)
	joins(13, splitsOf(13, 0), splitsOf(14, 0), false)
	one := append([]impl.Node{tightening(0)}, evenSplits(3, 14, 5)...)
	two := evenSplits(4, 14, 5)
	same(t, "nodes", 1+len(one)+len(two), 60)
	joins(3, one, two, true)
	joins(3, one, append([]impl.Node{tightening(0)}, evenSplits(4, 14, 6)...), false)
	joins(3, append(nodesOf("t0/t0"), evenSplits(3, 14, 6)...), two, false)
	deep := func(opposite, context, depth int) []impl.Node {
		multipliers := make([]int64, context+depth)
		multipliers[opposite] = 1
		return append(slices.Repeat([]impl.Node{tightening(0)}, depth), closing(multipliers...))
	}
	joins(3, deep(3, 4, 15), deep(4, 5, 15), true)
	joins(3, deep(3, 4, 16), deep(4, 5, 15), false)
	joins(3, deep(3, 4, 15), splitsOf(4, 0), true)
	joins(3, deep(3, 4, 16), splitsOf(4, 0), false)
}

func TestJoinFails(t *testing.T) {
	s, p, q := claim("-1;=>a"), nodesOf("c1,0"), nodesOf("c1,0,0")
	all, ok := impl.JoinProofs(s, termOf("b"), p, q)
	same(t, "JoinProofs", results(all, ok), results(nodesOf("sb/c1,0,0/c1,0,0"), true))
	for _, lemma := range append(badTerms(), fact(1e6), fact(1e6, 1), fact(1e6, repeated(1e6, 10)...), fact(math.MaxInt64)) {
		all, ok := impl.JoinProofs(s, lemma, p, q)
		fails(t, shown(lemma), all, ok)
	}
	for _, bad := range append(badSequents(), sequent(fact(1e6)), sequent(fact(1e6, 1), fact(-1)), claim("a;=>a"), claim("=>0")) {
		all, ok := impl.JoinProofs(bad, termOf("b"), p, q)
		fails(t, shown(bad), all, ok)
	}
	for _, bad := range append(badProofs(), nodesOf("c0,0"), nodesOf("c1"), nodesOf("c0,1"), nodesOf("c1,0,0,0"), nodesOf("t0/c1,0,0")) {
		all, ok := impl.JoinProofs(s, termOf("b"), bad, q)
		fails(t, shown(bad), all, ok)
		all, ok = impl.JoinProofs(s, termOf("b"), p, bad)
		fails(t, shown(bad), all, ok)
	}
	for _, x := range [][2][]impl.Node{{q, p}, {p, p}, {q, q}} {
		all, ok := impl.JoinProofs(s, termOf("b"), x[0], x[1])
		fails(t, "other proofs", all, ok)
	}
}
