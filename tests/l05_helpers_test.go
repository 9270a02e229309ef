package tests

import (
	"fmt"
	"math/rand/v2"
	"slices"
	"strconv"
	"strings"
	"testing"

	"loop.example/g01105/impl"
)

func closing(multipliers ...int64) impl.Node {
	return impl.Node{Kind: impl.ProofClose, Multipliers: multipliers}
}

func splitting(x impl.Term) impl.Node {
	return impl.Node{Kind: impl.ProofSplit, Term: x}
}

func tightening(fact int64) impl.Node {
	return impl.Node{Kind: impl.ProofTighten, Fact: fact}
}

// nodesOf returns the nodes that a text writes, whether they are a proof or not.
func nodesOf(text string) []impl.Node {
	var p []impl.Node
	for part := range strings.SplitSeq(text, "/") {
		switch part[0] {
		case 'c':
			p = append(p, closing(numbersOf(part[1:])...))
		case 's':
			p = append(p, splitting(termOf(part[1:])))
		case 't':
			p = append(p, tightening(numbersOf(part[1:])[0]))
		}
	}
	return p
}

func numbersOf(text string) []int64 {
	var list []int64
	for _, part := range strings.FieldsFunc(text, func(r rune) bool { return r == ',' }) {
		n, err := strconv.ParseInt(part, 10, 64)
		if err != nil {
			panic(err)
		}
		list = append(list, n)
	}
	return list
}

// mustRead returns what a function reads from a text that it accepts.
func mustRead[T any](read func(string) (T, bool), text string) T {
	x, ok := read(text)
	if !ok {
		panic(text)
	}
	return x
}

func termOf(text string) impl.Term {
	return mustRead(impl.ReadTerm, text)
}

func termsOf(texts ...string) []impl.Term {
	var list []impl.Term
	for _, text := range texts {
		list = append(list, termOf(text))
	}
	return list
}

// claim returns the sequent with a text.
func claim(text string) impl.Sequent {
	return mustRead(impl.ReadSequent, text)
}

func nodeTexts(p []impl.Node) []string {
	var texts []string
	for _, n := range p {
		switch n.Kind {
		case impl.ProofClose:
			texts = append(texts, "c"+strings.ReplaceAll(strings.Trim(fmt.Sprint(n.Multipliers), "[]"), " ", ","))
		case impl.ProofSplit:
			texts = append(texts, "s"+strings.TrimSuffix(termsText([]impl.Term{n.Term}, ";"), ";"))
		case impl.ProofTighten:
			texts = append(texts, fmt.Sprint("t", n.Fact))
		default:
			texts = append(texts, fmt.Sprintf("(%v)", n))
		}
	}
	return texts
}

// textOfNodes returns the text of nodes, whether they are a proof or not.
func textOfNodes(p []impl.Node) string {
	return strings.Join(nodeTexts(p), "/")
}

// isAccepted requires that CheckProof accepts a proof, and FirstFlaw finds nothing.
func isAccepted(t *testing.T, s impl.Sequent, p []impl.Node) {
	t.Helper()
	what := shown(sequentTexts([]impl.Sequent{s})) + textOfNodes(p)
	same(t, what, impl.CheckProof(s, p), true)
	flaw, ok := impl.FirstFlaw(s, p)
	fails(t, what, flaw, ok)
}

// isRefused requires the index of the first flaw.
func isRefused(t *testing.T, s impl.Sequent, p []impl.Node, at int64) {
	t.Helper()
	what := shown(sequentTexts([]impl.Sequent{s})) + textOfNodes(p)
	same(t, what, impl.CheckProof(s, p), false)
	flaw, ok := impl.FirstFlaw(s, p)
	same(t, what, results(flaw, ok), results(at, true))
}

// splitsOf returns a proof of a sequent with so many facts and a goal that is a number: its closes need the opposite of the goal alone. It is as flat as can be.
func splitsOf(facts, splits int) []impl.Node {
	return evenSplits(facts, splits, facts+1)
}

// evenSplits returns such a proof for a longer context.
func evenSplits(opposite, splits, context int) []impl.Node {
	if splits == 0 {
		n := closing(make([]int64, context)...)
		n.Multipliers[opposite] = 1
		return []impl.Node{n}
	}
	one, two := (splits-1)/2, splits-1-(splits-1)/2
	return slices.Concat([]impl.Node{splitting(alone(0, 1))}, evenSplits(opposite, one, context+1), evenSplits(opposite, two, context+1))
}

// proved is a sequent with a proof of it.
type proved struct {
	S impl.Sequent
	P []impl.Node
}

// handProofs are accepted proofs of all kinds.
func handProofs() []proved {
	var list []proved
	for _, c := range [][2]string{
		{"a-1;=>a", "c1,1"}, {"a-1;=>a", "c5,5"}, {"2a-1;=>a-1", "t0/c0,1,1"}, {"2a-1;-2a+1;=>-1", "sa-1/c0,1,0,2/c1,0,0,2"}, {"b;a-1;=>a", "c0,1,1"}, {"=>0", "c1"}, {"-1;=>j", "c1,0"}, {"-1;=>j", "c1000000,0"},
		{"2a-1;-2a+1;=>-1", "t0/t1/c0,0,0,1,1"}, {"2a-1;-2a+1;=>-1", "t1/t0/c0,0,0,1,1"}, {"2a-1;-2a+1;=>b", "sb-5/t0/t1/c0,0,0,0,1,1/sc/t0/c0,1,0,0,0,2/t1/c1,0,0,0,0,2"}, {"a;=>2a+1", "t1/c1,0,1"},
		{"a;b;c;=>a+b+c", "c1,1,1,1"}, {"a;a;=>a", "c1,0,1"}, {"a;a;=>a", "c0,1,1"}, {"2a-1;2a-1;=>a-1", "t1/c0,0,1,1"}, {"a+b-3;a-b;=>2a-3", "c1,1,1"}, {"=>0", "sa/c1,0/c1,0"}, {"1000000a;=>2a+1", "c1,500000"},
		{"1000000a;-1000000a-1;=>0", "c1000000,1000000,0"}, {"a-b;b-c;-a+c-1;=>d", "c1,1,1,0"}, {"=>999999", "c1"}, {"4a-4b-1;-4a+4b+3;=>0", "t0/t1/c0,0,0,1,1"},
	} {
		list = append(list, proved{claim(c[0]), nodesOf(c[1])})
	}
	return list
}

// closesWith returns multipliers of at most three facts whose sum is a negative number, if small ones are enough.
func closesWith(random *rand.Rand, context []impl.Term) ([]int64, bool) {
	multipliers := make([]int64, len(context))
	order := random.Perm(len(context))
	var search func(sum wideSmall, from, left int) bool
	search = func(sum wideSmall, from, left int) bool {
		if sum.isNegative() {
			return true
		}
		for k := from; left > 0 && k < len(order); k++ {
			for n := int64(1); n <= 3; n++ {
				multipliers[order[k]] = n
				if search(sum.plus(n, context[order[k]]), k+1, left-1) {
					return true
				}
			}
			multipliers[order[k]] = 0
		}
		return false
	}
	return multipliers, search(wideSmall{}, 0, 3)
}

// wideSmall has the coefficients of a sum of small terms, and its number as the last one.
type wideSmall [11]int64

func (w wideSmall) plus(n int64, x impl.Term) wideSmall {
	for i, coeff := range x.Coeffs {
		w[i] += n * coeff
	}
	w[10] += n * x.Const
	return w
}

func (w wideSmall) isNegative() bool {
	number := w[10]
	w[10] = 0
	return w == wideSmall{} && number < 0
}

// smallTerm returns a term of the symbols a and b with small numbers.
func smallTerm(random *rand.Rand) impl.Term {
	x := fact(random.Int64N(9)-4, random.Int64N(7)-3, random.Int64N(5)-2)
	for len(x.Coeffs) > 0 && x.Coeffs[len(x.Coeffs)-1] == 0 {
		x.Coeffs = x.Coeffs[:len(x.Coeffs)-1]
	}
	return x
}

// randomProof returns nodes that refute a context, if it finds some. It also splits and tightens where this is not needed.
func randomProof(random *rand.Rand, context []impl.Term, depth int) ([]impl.Node, bool) {
	if depth == 0 || random.IntN(2) == 0 {
		multipliers, ok := closesWith(random, context)
		if ok || depth == 0 {
			return []impl.Node{closing(multipliers...)}, ok
		}
	}
	first := splitting(smallTerm(random))
	if k := random.IntN(len(context)); random.IntN(3) > 0 && rightAgain(context, tightening(int64(k))) {
		first = tightening(int64(k))
	}
	p := []impl.Node{first}
	for which := range behindNode(first) {
		part, ok := randomProof(random, append(slices.Clone(context), addedAgain(context, first, which)), depth-1)
		if !ok {
			return nil, false
		}
		p = append(p, part...)
	}
	return p, true
}

// manyProofs returns proofs of sequents from a fixed seed, most of them with added facts.
func manyProofs(count int) []proved {
	random := rand.New(rand.NewPCG(31, 32))
	list := handProofs()
	for len(list) < count {
		s := sequent(smallTerm(random))
		for range random.IntN(5) {
			s.Facts = append(s.Facts, smallTerm(random))
		}
		p, ok := randomProof(random, contextAgain(s), random.IntN(4))
		if ok && len(p) <= 60 && (len(p) > 1 || random.IntN(4) == 0) {
			list = append(list, proved{s, p})
		}
	}
	return list
}

// joined is a sequent with a lemma, a proof of the lemma from its facts, and a proof of its goal with the lemma.
type joined struct {
	S     impl.Sequent
	Lemma impl.Term
	P, Q  []impl.Node
}

// manyJoined returns lemmas with proofs from a fixed seed.
func manyJoined(count int) []joined {
	random := rand.New(rand.NewPCG(33, 34))
	var list []joined
	for len(list) < count {
		x := joined{S: sequent(smallTerm(random)), Lemma: smallTerm(random)}
		for range random.IntN(4) {
			x.S.Facts = append(x.S.Facts, smallTerm(random))
		}
		var one, two bool
		x.P, one = randomProof(random, contextAgain(sequent(x.Lemma, x.S.Facts...)), random.IntN(3))
		x.Q, two = randomProof(random, contextAgain(withLemma(x.S, x.Lemma)), random.IntN(3))
		if one && two && (len(x.P)+len(x.Q) > 3 || random.IntN(6) == 0) {
			list = append(list, x)
		}
	}
	return list
}

func withLemma(s impl.Sequent, lemma impl.Term) impl.Sequent {
	return sequent(s.Goal, append(slices.Clone(s.Facts), lemma)...)
}

// changedNodes returns lists of nodes that differ a little from some nodes.
func changedNodes(p []impl.Node) [][]impl.Node {
	list := [][]impl.Node{p[1:], append(slices.Clone(p), closing(1)), append([]impl.Node{splitting(fact(0, 0, 1))}, slices.Concat(p, p)...)}
	for k, n := range p {
		change := func(changed impl.Node) {
			q := slices.Clone(p)
			q[k] = changed
			list = append(list, q)
		}
		for i := range n.Multipliers {
			for _, d := range []int64{1, -1} {
				multipliers := slices.Clone(n.Multipliers)
				multipliers[i] += d
				change(closing(multipliers...))
			}
		}
		if n.Kind == impl.ProofClose {
			change(closing(append(slices.Clone(n.Multipliers), 0)...))
			change(closing(n.Multipliers[:max(0, len(n.Multipliers)-1)]...))
			change(closing(slices.Repeat(n.Multipliers, 2)...))
		}
		for _, d := range []int64{1, -1, 7} {
			if n.Kind == impl.ProofTighten {
				change(tightening(n.Fact + d))
			}
			if n.Kind == impl.ProofSplit {
				change(splitting(fact(n.Term.Const+d, n.Term.Coeffs...)))
			}
		}
		if n.Kind == impl.ProofSplit {
			change(splitting(fact(1e6, n.Term.Coeffs...)))
			change(tightening(0))
		}
		list = append(list, slices.Delete(slices.Clone(p), k, k+1), slices.Insert(slices.Clone(p), k, tightening(0)))
	}
	return list
}
