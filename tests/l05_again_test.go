package tests

import (
	"fmt"
	"math/big"
	"math/rand/v2"
	"reflect"
	"slices"
	"testing"

	"loop.example/g01105/impl"
)

// branch is a subproof behind a node, the first or the second one.
type branch struct {
	at, which int
}

func behindNode(n impl.Node) int {
	return map[int64]int{impl.ProofSplit: 2, impl.ProofTighten: 1}[n.Kind]
}

// branchesAgain returns the branches that lead to each node by another way: from the first node on. It fails if the list is not one proof in prefix notation.
func branchesAgain(p []impl.Node) ([][]branch, bool) {
	var all [][]branch
	open := [][]branch{nil}
	for at, n := range p {
		if len(open) == 0 {
			return nil, false
		}
		lead := open[len(open)-1]
		open = open[:len(open)-1]
		all = append(all, lead)
		for which := behindNode(n) - 1; which >= 0; which-- {
			open = append(open, append(slices.Clone(lead), branch{at, which}))
		}
	}
	return all, len(open) == 0
}

// isNodeAgain builds a node from the fields that its kind uses.
func isNodeAgain(n impl.Node) bool {
	var only impl.Node
	good := false
	switch n.Kind {
	case impl.ProofClose:
		only = closing(n.Multipliers...)
		good = len(n.Multipliers) <= 20 && !slices.ContainsFunc(n.Multipliers, func(m int64) bool { return m < 0 || m > 1000000 })
	case impl.ProofSplit:
		only = splitting(n.Term)
		good = impl.ValidTerm(n.Term)
	case impl.ProofTighten:
		only = tightening(n.Fact)
		good = n.Fact >= 0 && n.Fact <= 19
	}
	return good && reflect.DeepEqual(results(n), results(only))
}

func isProofAgain(p []impl.Node) bool {
	_, ok := branchesAgain(p)
	return ok && len(p) <= 60 && !slices.ContainsFunc(p, func(n impl.Node) bool { return !isNodeAgain(n) })
}

func oppositeAgain(x impl.Term) impl.Term {
	opposite := fact(-x.Const - 1)
	for _, n := range x.Coeffs {
		opposite.Coeffs = append(opposite.Coeffs, -n)
	}
	return opposite
}

// divisorAgain returns the greatest common divisor of the coefficients of a term.
func divisorAgain(x impl.Term) *big.Int {
	divisor := new(big.Int)
	for _, n := range x.Coeffs {
		divisor.GCD(nil, nil, divisor, new(big.Int).Abs(big.NewInt(n)))
	}
	return divisor
}

func tightenedAgain(x impl.Term) impl.Term {
	divided := func(n int64) int64 { return new(big.Int).Div(big.NewInt(n), divisorAgain(x)).Int64() }
	tightened := fact(divided(x.Const))
	for _, n := range x.Coeffs {
		tightened.Coeffs = append(tightened.Coeffs, divided(n))
	}
	return tightened
}

// rightAgain reports whether a node is right in a context, with exact sums.
func rightAgain(context []impl.Term, n impl.Node) bool {
	switch n.Kind {
	case impl.ProofSplit:
		return len(context) < 20 && n.Term.Const < 1000000
	case impl.ProofTighten:
		return len(context) < 20 && n.Fact < int64(len(context)) && divisorAgain(context[n.Fact]).Cmp(big.NewInt(1)) > 0
	}
	if len(n.Multipliers) != len(context) {
		return false
	}
	sum := wideOf(0)
	for i, x := range context {
		sum = sum.plus(n.Multipliers[i], x)
	}
	for _, coeff := range sum[:10] {
		if coeff.Sign() != 0 {
			return false
		}
	}
	return sum[10].Sign() < 0
}

// addedAgain returns the fact that a right node adds for one of its subproofs.
func addedAgain(context []impl.Term, n impl.Node, which int) impl.Term {
	switch {
	case n.Kind == impl.ProofTighten:
		return tightenedAgain(context[n.Fact])
	case which == 1:
		return oppositeAgain(n.Term)
	}
	return n.Term
}

// contextAgain returns the context of a sequent.
func contextAgain(s impl.Sequent) []impl.Term {
	return append(slices.Clone(s.Facts), oppositeAgain(s.Goal))
}

// nodeContext follows the branches from the first node to one node; it fails if one of the nodes before it is a flaw.
func nodeContext(s impl.Sequent, p []impl.Node, k int) ([]impl.Term, bool) {
	all, _ := branchesAgain(p)
	context := contextAgain(s)
	for _, b := range all[k] {
		if !rightAgain(context, p[b.at]) {
			return nil, false
		}
		context = append(context, addedAgain(context, p[b.at], b.which))
	}
	return context, true
}

// flawsAgain returns the indices of all flaws.
func flawsAgain(s impl.Sequent, p []impl.Node) []int64 {
	var flaws []int64
	for k, n := range p {
		if context, ok := nodeContext(s, p, k); ok && !rightAgain(context, n) {
			flaws = append(flaws, int64(k))
		}
	}
	return flaws
}

// examinedAgain holds ContextAt, FirstFlaw and CheckProof for any sequent and nodes against the second way, and returns the number of flaws.
func examinedAgain(t *testing.T, s impl.Sequent, p []impl.Node) int {
	t.Helper()
	valid := impl.ValidSequent(s) && s.Goal.Const < 1000000 && isProofAgain(p)
	what := shown(sequentTexts([]impl.Sequent{s})) + textOfNodes(p)
	same(t, what, impl.IsProof(p), isProofAgain(p))
	var flaws []int64
	if valid {
		flaws = flawsAgain(s, p)
	}
	same(t, what, impl.CheckProof(s, p), valid && len(flaws) == 0)
	flaw, ok := impl.FirstFlaw(s, p)
	if len(flaws) > 0 {
		same(t, what, results(flaw, ok), results(flaws[0], true))
	} else {
		fails(t, what, flaw, ok)
	}
	for k := -1; k <= len(p); k++ {
		context, ok := impl.ContextAt(s, p, int64(k))
		if want, exists := []impl.Term(nil), valid && k >= 0 && k < len(p); exists {
			if want, exists = nodeContext(s, p, k); exists {
				same(t, what, results(context, ok), results(want, true))
				continue
			}
		}
		fails(t, what, context, ok)
	}
	return len(flaws)
}

// TestProofsAgain holds proofs, and proofs that differ a little, against the second way.
func TestProofsAgain(t *testing.T) {
	counts := map[int]int{}
	for _, x := range manyProofs(250) {
		same(t, "flaws", examinedAgain(t, x.S, x.P), 0)
		for _, p := range changedNodes(x.P) {
			counts[min(2, examinedAgain(t, x.S, p))]++
		}
	}
	for count := range 3 {
		if counts[count] < 300 {
			t.Errorf("only %d lists of nodes with %d flaws", counts[count], count)
		}
	}
}

// TestProofsOfOtherSequents examines proofs with sequents that they do not belong to.
func TestProofsOfOtherSequents(t *testing.T) {
	random := rand.New(rand.NewPCG(35, 36))
	sequents := slices.Concat(validSequents(), badSequents()[:20], []impl.Sequent{sequent(fact(1e6)), sequent(fact(1e6, 1), fact(-1))})
	for _, x := range manyProofs(250) {
		for range 4 {
			examinedAgain(t, sequents[random.IntN(len(sequents))], x.P)
		}
	}
}

// randomNodes returns a proof of any form, most often with many flaws.
func randomNodes(random *rand.Rand, depth int) []impl.Node {
	kind := random.IntN(4)
	switch {
	case depth == 0 || kind == 0:
		multipliers := make([]int64, random.IntN(6))
		for i := range multipliers {
			multipliers[i] = random.Int64N(3)
		}
		return []impl.Node{closing(multipliers...)}
	case kind == 1:
		return append([]impl.Node{tightening(random.Int64N(5))}, randomNodes(random, depth-1)...)
	}
	return slices.Concat([]impl.Node{splitting(smallTerm(random))}, randomNodes(random, depth-1), randomNodes(random, depth-1))
}

func TestRandomNodesAgain(t *testing.T) {
	random := rand.New(rand.NewPCG(37, 38))
	for range 2000 {
		s := sequent(smallTerm(random))
		for range random.IntN(4) {
			s.Facts = append(s.Facts, smallTerm(random))
		}
		examinedAgain(t, s, randomNodes(random, random.IntN(6)))
	}
}

// TestAcceptedSequentsHold looks for counterexamples of sequents with accepted proofs, also of proofs that differ a little.
func TestAcceptedSequentsHold(t *testing.T) {
	for _, x := range manyProofs(400) {
		isAccepted(t, x.S, x.P)
		values, ok := impl.LeastCounter(x.S, 4)
		fails(t, fmt.Sprint(sequentTexts([]impl.Sequent{x.S})), values, ok)
		for _, values := range validValues() {
			same(t, "counterexample", impl.IsCounter(x.S, values), false)
		}
		for _, goal := range []impl.Term{fact(x.S.Goal.Const-1, x.S.Goal.Coeffs...), fact(x.S.Goal.Const-2, x.S.Goal.Coeffs...), fact(-1)} {
			s := sequent(goal, x.S.Facts...)
			if impl.CheckProof(s, x.P) {
				same(t, fmt.Sprint(sequentTexts([]impl.Sequent{s})), len(counters(s, 3)), 0)
			}
		}
	}
}
