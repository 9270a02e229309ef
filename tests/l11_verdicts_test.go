package tests

import (
	"math/rand/v2"
	"slices"
	"testing"

	"loop.example/g01105/impl"
)

// crowded returns a package with 60 conditions on 10 paths, the last of which emits an event.
func crowded(t *testing.T) impl.Package {
	t.Helper()
	a := halting(append(exactWays(0, 10), instrs("emit 1")...))
	for n := range int64(6) {
		a.Post = append(a.Post, fact(n))
	}
	p, ok := impl.MakePackage("crowded", a, 60)
	same(t, "60 conditions", results(len(p.Proofs), ok), results(60, true))
	return p
}

// withProof returns a package with another proof at some places.
func withProof(p impl.Package, text string, places ...int) impl.Package {
	p.Proofs = slices.Clone(p.Proofs)
	for _, k := range places {
		p.Proofs[k] = nodesOf(text)
	}
	return p
}

func TestVerdictsWithoutConditions(t *testing.T) {
	for _, text := range []string{"jump 0", "add;halt", "push 0", "jump 79", "halt;jump 1", "push 0;point;halt", "point;jump 0;point;jump 2;point;jump 79", "emit 1;jump 0", "push 1000000;load 0;add;scale 2;store 0;halt"} {
		p := impl.Package{Name: "a", Code: annotated(t, text)}
		for count := range 61 {
			p.Proofs = slices.Repeat([][]impl.Node{nodesOf("c1")}, count)
			hasVerdict(t, p, policyOf(everything), impl.NoConditions, 0)
			hasVerdict(t, p, policyOf(nothing), impl.NoConditions, 0)
		}
	}
	// 61 conditions are too many.
	p := crowded(t)
	p.Code.Code = append(instrs("push 0;check"), halting(exactWays(2, 10)).Code...)
	hasVerdict(t, p, policyOf(everything), impl.NoConditions, 0)
}

func TestVerdictsOnCounts(t *testing.T) {
	crowd := crowded(t)
	for _, c := range []struct {
		p     impl.Package
		count int
	}{{packed(t, "a", "halt"), 0}, {packed(t, "a", "emit 3;halt"), 0}, {packed(t, "a", incCode), 1}, {packed(t, "a", handCodes()[4]), 3}, {crowd, 60}} {
		for count := range 61 {
			p := c.p
			p.Proofs = append(slices.Clone(p.Proofs), slices.Repeat([][]impl.Node{nodesOf("c1")}, 60)...)[:count]
			if count != c.count {
				hasVerdict(t, p, policyOf(everything), impl.WrongCount, int64(c.count))
				hasVerdict(t, p, policyOf(nothing), impl.WrongCount, int64(c.count))
				// The wrong number is told, not the wrong proofs.
				p.Proofs = slices.Repeat([][]impl.Node{nodesOf("c")}, count)
				hasVerdict(t, p, policyOf(everything), impl.WrongCount, int64(c.count))
			} else {
				hasVerdict(t, p, policyOf(everything), impl.FineCode, 0)
			}
		}
	}
}

func TestVerdictsOnProofs(t *testing.T) {
	p := crowded(t)
	for k := range 60 {
		for _, text := range []string{"c", "c0", "c1,1,1,1,1,1,1,1,1,1,1,1", "t0/c", "t19/c", "s1000000/c/c", "sa/c/c"} {
			bad := withProof(p, text, k)
			hasVerdict(t, bad, policyOf(everything), impl.WrongProof, int64(k))
			// The wrong proof is told before what the policy says.
			hasVerdict(t, bad, policyOf(nothing), impl.WrongProof, int64(k))
		}
		for other := range 60 {
			hasVerdict(t, withProof(p, "c", k, other), policyOf(everything), impl.WrongProof, int64(min(k, other)))
		}
		hasVerdict(t, withProof(p, "c", rangeOf(k, 60)...), policyOf(everything), impl.WrongProof, int64(k))
	}
	// Each proof is that of one condition.
	loop := packed(t, "loop", "pre a+1;post -a-1;point;at a+1;load 0;test 8;emit 1;push -1;load 0;add;store 0;jump 0;halt")
	for _, c := range []struct {
		order []int
		want  int64
	}{{[]int{0, 2, 1}, -1}, {[]int{1, 0, 2}, 0}, {[]int{1, 2, 0}, 0}, {[]int{0, 1, 0}, 2}, {[]int{0, 0, 2}, 1}, {[]int{2, 1, 2}, 0}, {[]int{0, 0, 0}, 1}} {
		x := loop
		x.Proofs = nil
		for _, k := range c.order {
			x.Proofs = append(x.Proofs, loop.Proofs[k])
		}
		if c.want < 0 {
			hasVerdict(t, x, policyOf(everything), impl.FineCode, 0)
		} else {
			hasVerdict(t, x, policyOf(everything), impl.WrongProof, c.want)
		}
	}
	// A condition whose goal has no opposite has no proof.
	top := impl.Package{Name: "top", Code: annotated(t, "post 999999;post 1000000;post 0;halt"), Proofs: [][]impl.Node{nodesOf("c1"), nodesOf("c1"), nodesOf("c1")}}
	hasVerdict(t, top, policyOf(everything), impl.WrongProof, 1)
	hasVerdict(t, withProof(top, "c1,0", 0), policyOf(everything), impl.WrongProof, 0)
	// Other proofs than those of the prover can be accepted.
	inc := packed(t, "inc", incCode)
	for _, text := range []string{"c7,7", "c1000000,1000000", "sa/c1,1,0/c1,1,0", "sc-d/s5/c1,1,0,0/c1,1,0,1/c3,3,0"} {
		hasVerdict(t, withProof(inc, text, 0), policyOf(everything), impl.FineCode, 0)
	}
	for _, text := range []string{"c1,0", "c0,1", "c2,1", "c1,1,0", "t0/c1,1,0", "sa/c1,1,0/c1,1,1", "sa/c1,0,0/c1,1,0"} {
		hasVerdict(t, withProof(inc, text, 0), policyOf(everything), impl.WrongProof, 0)
	}
}

// rangeOf returns the numbers from one to before another one.
func rangeOf(from, end int) []int {
	var numbers []int
	for n := from; n < end; n++ {
		numbers = append(numbers, n)
	}
	return numbers
}

func TestVerdictsOfPolicies(t *testing.T) {
	for _, c := range []struct {
		policy, code string
		want         int64
	}{
		{everything, incCode, -1}, {nothing, incCode, 0}, {inTurn, incCode, 0}, {"x,x,0,x", incCode, -1}, {"0,0,x,0", incCode, 0}, {nothing, "halt", -1}, {nothing, "load 0;test 3;halt;emit 0;halt", 1}, {nothing, "load 0;test 3;emit 0;halt", 0},
		{inTurn, "load 0;test 4;emit 0;halt;emit 1;halt", 1}, {inTurn, "point;load 0;test 5;emit 0;emit 1;jump 0;halt", -1}, {inTurn, "point;load 0;test 4;emit 0;jump 0;halt", 1}, {inTurn, "point;emit 0;load 0;test 5;emit 1;jump 0;emit 0;halt", 2}, {nothing, "halt;emit 1;halt", -1}, {nothing, "halt;point;emit 1;halt", -1},
	} {
		p := packed(t, "a", c.code)
		if c.want < 0 {
			hasVerdict(t, p, policyOf(c.policy), impl.FineCode, 0)
		} else {
			hasVerdict(t, p, policyOf(c.policy), impl.NotAllowed, c.want)
		}
	}
	hasVerdict(t, crowded(t), policyOf("x,x,x,0"), impl.NotAllowed, 0)
	// The paths on which each test leads to the second instruction behind them.
	for count := 2; count <= 10; count++ {
		a := halting(exactWays(0, count))
		end := int64(len(a.Code))
		for k := range a.Code {
			if a.Code[k].Arg == end-1 && a.Code[k].Op == impl.OpTest {
				a.Code[k].Arg = end
			}
		}
		a.Code = append(a.Code, instrs("emit 2;halt")...)
		p, ok := impl.MakePackage("last", a, 60)
		same(t, "MakePackage", ok, true)
		path, _, ok := impl.FirstOffence(policyOf(nothing), a)
		same(t, "FirstOffence", ok, true)
		hasVerdict(t, p, policyOf(nothing), impl.NotAllowed, path)
		hasVerdict(t, p, policyOf("x,x,0,x"), impl.FineCode, 0)
	}
}

// TestBadArgumentsOfVerdicts has what is no package or no policy.
func TestBadArgumentsOfVerdicts(t *testing.T) {
	halt := packed(t, "halt", "halt")
	for _, p := range badPackages() {
		for _, policy := range []string{everything, nothing} {
			verdict, at, ok := impl.VerdictOf(p, policyOf(policy))
			fails(t, "no package", verdict, at, ok)
		}
	}
	for _, policy := range badPolicies() {
		for _, p := range []impl.Package{halt, packed(t, "inc", incCode), {Name: "a", Code: bare("jump 0")}, {Name: "a", Code: halt.Code, Proofs: [][]impl.Node{nodesOf("c")}}, {}} {
			verdict, at, ok := impl.VerdictOf(p, policy)
			fails(t, "no policy", verdict, at, ok)
		}
	}
}

// TestVerdictsAgain compares verdicts with those that are found by other ways, over packages that differ a little from proved ones.
func TestVerdictsAgain(t *testing.T) {
	random := rand.New(rand.NewPCG(103, 104))
	policies := append(manyPolicies(200), policyOf(everything))
	counts := map[int64]int{}
	later := map[int64]int{}
	for i, p := range manyPackages(60) {
		for k, x := range mixedUp(random, p) {
			policy := policies[random.IntN(len(policies))]
			if (i+k)%2 == 0 {
				policy = policyOf(everything)
			}
			want, at := verdictAgain(x, policy)
			hasVerdict(t, x, policy, want, at)
			counts[want]++
			if at > 0 {
				later[want]++
			}
		}
	}
	for verdict := range int64(5) {
		if counts[verdict] < 50 {
			t.Errorf("the verdict %d: only %d", verdict, counts[verdict])
		}
	}
	if later[impl.WrongProof] < 50 || later[impl.NotAllowed] < 10 {
		t.Errorf("not only the first index: %v", later)
	}
}

// TestVerdictsAreTheSame examines a package with many wrong proofs again and again: whichever check ends first, the first wrong proof is told.
func TestVerdictsAreTheSame(t *testing.T) {
	p := withProof(crowded(t), "c", rangeOf(7, 60)...)
	// The first wrong proof takes longer than all others.
	p.Proofs[7] = splitsOf(0, 29)
	for range 300 {
		hasVerdict(t, p, policyOf(everything), impl.WrongProof, 7)
	}
}
