package tests

import (
	"math"
	"math/rand/v2"
	"slices"
	"strings"
	"testing"

	"loop.example/g01105/impl"
)

func TestConstantsOfChapter5(t *testing.T) {
	same(t, "limits", []int64{impl.MaxNodes, impl.MaxContext}, []int64{60, 20})
	same(t, "kinds", []int64{impl.ProofClose, impl.ProofSplit, impl.ProofTighten}, []int64{1, 2, 3})
}

// validProofs are lists of nodes with the form of a proof, right or not, also at the limits.
func validProofs() [][]impl.Node {
	list := [][]impl.Node{
		nodesOf("c"), nodesOf("c0,1"), nodesOf("t0/c"), nodesOf("t19/c"), nodesOf("s0/c/c"), nodesOf("sa-1/c0,1,0,2/c1,0,0,2"), nodesOf("sa/t1/sb/c1/t2/c2/c3"), {closing(repeated(1e6, 20)...)}, {closing(repeated(0, 20)...)}, {splitting(fact(1e6, repeated(-1e6, 10)...)), closing(), closing()},
		append(slices.Repeat([]impl.Node{tightening(19)}, 59), closing()), splitsOf(0, 29), append([]impl.Node{tightening(0)}, splitsOf(3, 29)...), append(slices.Repeat([]impl.Node{splitting(fact(0))}, 29), slices.Repeat([]impl.Node{closing()}, 30)...),
		append(slices.Repeat(nodesOf("s0/c"), 29), closing(1)), {{Kind: impl.ProofClose, Term: impl.Term{Coeffs: []int64{}}, Multipliers: []int64{}}}, {{Kind: impl.ProofTighten, Term: impl.Term{Coeffs: []int64{}}, Multipliers: []int64{}}, closing()},
	}
	for _, x := range manyProofs(60) {
		list = append(list, x.P)
	}
	return list
}

// badProofs are lists of nodes that do not have the form of a proof.
func badProofs() [][]impl.Node {
	long := append(slices.Repeat([]impl.Node{tightening(19)}, 60), closing())
	list := [][]impl.Node{
		nil, {}, long, long[:60], splitsOf(0, 30), append(nodesOf("t0/t0"), splitsOf(0, 29)...), {tightening(0)}, {splitting(fact(0))}, nodesOf("s0/c"), nodesOf("s0/s0/c/c"), nodesOf("t0/s0/c"), nodesOf("s0/c/t0"), nodesOf("c/c"), nodesOf("s0/c/c/c"), nodesOf("t0/c/c"), nodesOf("c/t0"), nodesOf("c/s0/c/c"),
		nodesOf("c/t0/c"), slices.Repeat([]impl.Node{closing()}, 60), slices.Repeat([]impl.Node{closing()}, 100000), slices.Repeat([]impl.Node{splitting(fact(0))}, 100000), slices.Repeat([]impl.Node{tightening(0)}, 60), append(slices.Repeat([]impl.Node{splitting(fact(0))}, 29), slices.Repeat([]impl.Node{closing()}, 31)...),
		append(slices.Repeat([]impl.Node{splitting(fact(0))}, 30), slices.Repeat([]impl.Node{closing()}, 30)...),
	}
	for _, kind := range []int64{0, -1, 4, 5, math.MaxInt64, math.MinInt64, 1<<32 + 1, 1<<62 + 1} {
		list = append(list, []impl.Node{{Kind: kind}}, []impl.Node{splitting(fact(0)), closing(), {Kind: kind}}, []impl.Node{tightening(0), {Kind: kind}}, []impl.Node{{Kind: kind}, closing()})
	}
	return list
}

func TestIsProof(t *testing.T) {
	for _, p := range validProofs() {
		same(t, shown(p), impl.IsProof(p), true)
		for k := range p {
			same(t, "a proof that ends early", impl.IsProof(p[:k]), false)
		}
		same(t, "a proof and more", impl.IsProof(append(slices.Clone(p), closing())), false)
	}
	for _, p := range badProofs() {
		same(t, shown(p), impl.IsProof(p), false)
	}
}

// nodeFields returns changes of a field of a node with its name: those that are valid where the field is used, and those that never are.
func nodeFields() (good, bad map[string][]func(*impl.Node)) {
	good, bad = map[string][]func(*impl.Node){}, map[string][]func(*impl.Node){}
	add := func(list map[string][]func(*impl.Node), field string, change func(*impl.Node)) {
		list[field] = append(list[field], change)
	}
	for _, n := range []int64{1, 2, 18, 19} {
		add(good, "fact", func(x *impl.Node) { x.Fact = n })
	}
	for _, n := range []int64{20, 21, -1, -20, math.MaxInt64, math.MinInt64, 1 << 32} {
		add(bad, "fact", func(x *impl.Node) { x.Fact = n })
	}
	for _, x := range validTerms() {
		if !impl.SameTerm(x, fact(0)) {
			add(good, "term", func(n *impl.Node) { n.Term = x })
		}
	}
	for _, x := range badTerms() {
		add(bad, "term", func(n *impl.Node) { n.Term = x })
	}
	for _, list := range [][]int64{{0}, {1}, {1e6}, {0, 1}, {1, 0}, repeated(0, 20), repeated(1e6, 20), repeated(7, 19)} {
		add(good, "multipliers", func(x *impl.Node) { x.Multipliers = list })
	}
	for _, list := range [][]int64{{-1}, {0, -1}, {-1, 0}, {1e6 + 1}, {1, 1e6 + 1}, {math.MaxInt64}, {math.MinInt64}, repeated(0, 21), repeated(1, 21), repeated(0, 100000), append(repeated(0, 19), -1)} {
		add(bad, "multipliers", func(x *impl.Node) { x.Multipliers = list })
	}
	return good, bad
}

// TestFieldsOfNodes tries each field with each kind.
func TestFieldsOfNodes(t *testing.T) {
	uses := []string{"", "multipliers", "term", "fact"}
	good, bad := nodeFields()
	for kind := int64(1); kind <= 3; kind++ {
		try := func(field string, change func(*impl.Node), want bool) {
			n := impl.Node{Kind: kind}
			change(&n)
			p := append([]impl.Node{n}, slices.Repeat([]impl.Node{closing()}, behindNode(n))...)
			same(t, field+shown(n), impl.IsProof(p), want)
			same(t, field+shown(n), impl.IsProof(slices.Concat(nodesOf("t3/sa/c"), p)), want)
		}
		try("none", func(*impl.Node) {}, true)
		for field, changes := range good {
			for _, change := range changes {
				try(field, change, strings.Contains(uses[kind], field))
			}
		}
		for field, changes := range bad {
			for _, change := range changes {
				try(field, change, false)
			}
		}
	}
}

func TestSubproofAt(t *testing.T) {
	p := nodesOf("sa/t1/sb/c1/t2/c2/t0/c3")
	for k, want := range []string{"sa/t1/sb/c1/t2/c2/t0/c3", "t1/sb/c1/t2/c2", "sb/c1/t2/c2", "c1", "t2/c2", "c2", "t0/c3", "c3"} {
		part, ok := impl.SubproofAt(p, int64(k))
		same(t, want, results(part, ok), results(nodesOf(want), true))
	}
	for _, p := range validProofs() {
		all, _ := branchesAgain(p)
		for k := range p {
			end := k + 1
			for end < len(p) && slices.ContainsFunc(all[end], func(b branch) bool { return b.at == k }) {
				end++
			}
			part, ok := impl.SubproofAt(p, int64(k))
			same(t, shown(p), results(part, ok), results(p[k:end], true))
			same(t, shown(p), impl.IsProof(part), true)
		}
		for _, k := range []int64{-1, int64(len(p)), int64(len(p)) + 1, math.MaxInt64, math.MinInt64, 1 << 32} {
			part, ok := impl.SubproofAt(p, k)
			fails(t, shown(p), part, ok)
		}
	}
	for _, p := range badProofs() {
		for _, k := range []int64{0, 1, -1, int64(len(p)) - 1} {
			part, ok := impl.SubproofAt(p, k)
			fails(t, shown(p), part, ok)
		}
	}
}

func TestDepthOf(t *testing.T) {
	for text, want := range map[string]int64{"c": 1, "t0/c": 2, "sa/c/c": 2, "sa/t0/c/c": 3, "sa/c/t0/c": 3, "sa/t0/c/t0/c": 3, "sa/sb/c/c/sb/c/sc/c/c": 4, "sa/sb/c/sc/c/c/sb/c/c": 4, "t0/t0/t0/sa/c/c": 5} {
		depth, ok := impl.DepthOf(nodesOf(text))
		same(t, text, results(depth, ok), results(want, true))
	}
	depth, ok := impl.DepthOf(append(slices.Repeat([]impl.Node{tightening(19)}, 59), closing()))
	same(t, "60 nodes", results(depth, ok), results(int64(60), true))
	random := rand.New(rand.NewPCG(39, 40))
	for range 300 {
		p := randomNodes(random, random.IntN(7))
		all, _ := branchesAgain(p)
		want := 0
		for _, lead := range all {
			want = max(want, len(lead)+1)
		}
		depth, ok := impl.DepthOf(p)
		if len(p) > 60 {
			fails(t, "too many nodes", depth, ok)
			continue
		}
		same(t, textOfNodes(p), results(depth, ok), results(int64(want), true))
	}
	for _, p := range badProofs() {
		depth, ok := impl.DepthOf(p)
		fails(t, shown(p), depth, ok)
	}
}
