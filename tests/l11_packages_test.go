package tests

import (
	"fmt"
	"math"
	"slices"
	"strings"
	"testing"

	"loop.example/g01105/impl"
)

func TestConstantsOfChapter11(t *testing.T) {
	same(t, "limit", int64(impl.MaxPackages), int64(6))
	same(t, "verdicts", []int64{impl.FineCode, impl.NoConditions, impl.WrongCount, impl.WrongProof, impl.NotAllowed}, []int64{0, 1, 2, 3, 4})
}

// TestPackageOfTheExample has the example of chapter 11 about code without conditions.
func TestPackageOfTheExample(t *testing.T) {
	p, ok := impl.MakePackage("halt", bare("halt"), 1)
	same(t, "MakePackage", results(p, ok), results(impl.Package{Name: "halt", Code: bare("halt")}, true))
	for _, policy := range append(manyPolicies(300), limitPolicies()...) {
		hasVerdict(t, p, policy, impl.FineCode, 0)
	}
}

func TestValidPackage(t *testing.T) {
	for _, p := range append(handPackages(t), manyPackages(60)...) {
		same(t, shown(p), impl.ValidPackage(p), true)
	}
	for i, p := range badPackages() {
		same(t, fmt.Sprint("bad package ", i), impl.ValidPackage(p), false)
	}
	for length := range 20 {
		same(t, "the length of a name", impl.ValidPackage(impl.Package{Name: strings.Repeat("z", length), Code: bare("halt")}), length >= 1 && length <= 10)
	}
	// Proofs need not prove anything, and code need not have conditions.
	for _, code := range append(validAnnotated(), bare("jump 79"), bare("jump 0"), bare("add")) {
		for _, count := range []int{0, 1, 59, 60, 61, 1000} {
			p := impl.Package{Name: "az", Code: code, Proofs: slices.Repeat([][]impl.Node{nodesOf("c")}, count)}
			same(t, "the number of proofs", impl.ValidPackage(p), count <= 60)
		}
	}
	for _, proof := range validProofs() {
		for _, k := range []int{0, 30, 59} {
			proofs := slices.Repeat([][]impl.Node{nodesOf("t3/c1")}, 60)
			proofs[k] = proof
			same(t, shown(proof), impl.ValidPackage(impl.Package{Name: "a", Code: bare("halt"), Proofs: proofs}), true)
		}
	}
}

// isMade requires the package of code, with the texts of its proofs.
func isMade(t *testing.T, a impl.Annotated, budget int64, proofs ...string) {
	t.Helper()
	want := impl.Package{Name: "made", Code: a}
	for _, text := range proofs {
		want.Proofs = append(want.Proofs, nodesOf(text))
	}
	p, ok := impl.MakePackage("made", a, budget)
	same(t, shown(a), results(p, ok), results(want, true))
	same(t, "ValidPackage", impl.ValidPackage(p), true)
	hasVerdict(t, p, policyOf(everything), impl.FineCode, 0)
}

// isNotMade requires that there is no package of code with some budgets.
func isNotMade(t *testing.T, a impl.Annotated, budgets ...int64) {
	t.Helper()
	for _, budget := range budgets {
		p, ok := impl.MakePackage("made", a, budget)
		fails(t, shown(a), p, ok)
	}
}

var badBudgets = []int64{0, -1, 61, 62, math.MaxInt64, math.MinInt64}

func TestMakePackage(t *testing.T) {
	for i, proofs := range [][]string{
		{}, {"c1,1"}, {"t0/c1,2,0"}, {"sc-1/c1,1,0,2,0,2/c1,1,2,0,0,2"}, {"c1,1", "c0,1,1", "c0,1,1"}, {"c1", "c1", "c1,1"}, {"c1,0,1", "c0,1,1", "c1,0,1", "c0,1,1"}, {"c1,0,1", "c0,1,1"}, {"c1,1", "c0,1"},
	} {
		a := annotated(t, handCodes()[i])
		isNotMade(t, a, badBudgets...)
		// The greatest number of nodes is the least budget.
		nodes := int64(1)
		for _, text := range proofs {
			nodes = max(nodes, int64(len(nodesOf(text))))
		}
		for budget := int64(1); budget <= 60; budget++ {
			if budget >= nodes {
				isMade(t, a, budget, proofs...)
			} else {
				isNotMade(t, a, budget)
			}
		}
	}
	several := annotated(t, "pre 2a-1;load 0;check;load 0;push -1;add;check;load 0;check;halt")
	isMade(t, several, 2, "t0/c1,2,0", "t0/c1,0,2,0", "c1,0,0,2")
	isNotMade(t, several, 1)
	for _, name := range badNames() {
		p, ok := impl.MakePackage(name, bare("halt"), 60)
		fails(t, shown(name), p, ok)
	}
	for _, name := range []string{"a", "z", "az", "abcdefghij", "zzzzzzzzzz"} {
		p, ok := impl.MakePackage(name, bare("halt"), 60)
		same(t, name, results(p, ok), results(impl.Package{Name: name, Code: bare("halt")}, true))
	}
}

// TestCodeThatIsNotPacked has code without conditions, and conditions without proofs.
func TestCodeThatIsNotPacked(t *testing.T) {
	budgets := append(slices.Clone(badBudgets), 1, 2, 30, 60)
	for _, text := range []string{
		// No conditions.
		"jump 0", "jump 1;jump 1", "add;halt", "push 0", "jump 79", "load 0;test 2", "halt;jump 1", "push 0;point;halt", "halt;point;add;halt", "push 1000000;load 0;add;scale 2;store 0;halt", "push 1000000;store 0;load 0;push 1;add;store 0;halt",
		// No proof of the first, a middle or the last one.
		"push -1;check;halt", "post -1;halt", "load 0;get;store 1;halt", "push 8;get;store 0;halt", "push 0;check;load 0;check;push 1;check;halt", "pre b;post a-2;load 1;push 1;add;store 0;halt", "post 1000000;halt", "push 1000000;check;halt", "push 0;check;push 1000000;check;push 1;check;halt",
		"pre a;point;at b;halt", "pre a;point;at a;push -1;load 0;add;store 0;jump 0", "push 3;push 0;put;push -1;get;store 0;halt",
	} {
		isNotMade(t, annotated(t, text), budgets...)
	}
	for i, a := range badAnnotated() {
		p, ok := impl.MakePackage("made", a, 60)
		fails(t, fmt.Sprint("bad code ", i), p, ok)
	}
	crowd := halting(exactWays(0, 10))
	crowd.Post = factsOf(fact(1), 6)
	p, ok := impl.MakePackage("crowd", crowd, 1)
	same(t, "60 conditions", results(len(p.Proofs), ok), results(60, true))
	hasVerdict(t, p, policyOf(nothing), impl.FineCode, 0)
	crowd = halting(append(instrs("push 0;check"), exactWays(2, 10)...))
	crowd.Post = factsOf(fact(1), 6)
	isNotMade(t, crowd, budgets...)
}

// TestPackagesAreProofs makes packages of any code, and compares with its conditions and their proofs.
func TestPackagesAreProofs(t *testing.T) {
	counts := map[string]int{}
	for i, a := range append(codesToPack(150), wildAnnotated(200)...) {
		budget := int64(1 + i%60)
		conditions, exist := impl.ConditionsOfCode(a)
		proofs, proved := impl.ProveAll(conditions, budget)
		p, ok := impl.MakePackage(letters(i), a, budget)
		if !exist || !proved {
			fails(t, shown(a), p, ok)
			counts[map[bool]string{true: "no proofs", false: "no conditions"}[exist]]++
			continue
		}
		same(t, shown(a), results(p, ok), results(impl.Package{Name: letters(i), Code: a, Proofs: proofs}, true))
		hasVerdict(t, p, policyOf(everything), impl.FineCode, 0)
		if len(proofs) > 3 {
			counts["made"]++
		}
	}
	for _, what := range []string{"no conditions", "no proofs", "made"} {
		if counts[what] < 80 {
			t.Errorf("%s: only %d", what, counts[what])
		}
	}
}
