package tests

import (
	"fmt"
	"math/big"
	"slices"
	"strings"
	"testing"

	"loop.example/g01105/impl"
)

// TestEliminationsAgain holds eliminations against the second way, and requires that enough of them fail for each reason.
func TestEliminationsAgain(t *testing.T) {
	counts := map[string]int{}
	for i, list := range slices.Concat(manyLists(1200), tightLists(800)) {
		what := termsText(list, ";")
		x := stagesOf(list, allSymbols(10)...)
		if multipliers, ok := x.refutation(); ok {
			refutes(t, list, multipliers...)
			counts["refuted"]++
		} else {
			isNotRefuted(t, list)
		}
		if terms, rows := x.cuts(); len(terms) > 0 {
			cutsBy(t, list, strings.TrimSuffix(termsText(terms[:1], ";"), ";"), rows[0]...)
			counts["cut"]++
		} else {
			hasNoCut(t, list)
		}
		if !x.ok {
			counts[fmt.Sprint("many rows: ", slices.Max(x.counts) > 60)]++
		}
		one := stagesOf(list, i%10)
		if terms, ok := impl.EliminateSymbol(list, int64(i%10)); one.ok {
			same(t, what, results(terms, ok), results(one.terms(), true))
			counts["one symbol"]++
		} else {
			fails(t, what, terms, ok)
			counts["not one symbol"]++
		}
	}
	for _, reason := range []string{"refuted", "cut", "many rows: true", "many rows: false", "one symbol", "not one symbol"} {
		if counts[reason] < 30 {
			t.Errorf("%s: only %d", reason, counts[reason])
		}
	}
}

// TestLeastAgain holds bounds against the second way.
func TestLeastAgain(t *testing.T) {
	succeeded, failed := 0, 0
	lists := slices.Concat(manyLists(800), tightLists(800))
	for i, list := range lists {
		goal := fact(int64(i % 7))
		if next := lists[(i+4)%len(lists)]; len(next) > 0 {
			goal = next[0]
		}
		least, ok := leastAgain(list, goal)
		if !ok || len(list) > 13 || slices.ContainsFunc(append(slices.Clone(list), goal), func(x impl.Term) bool { return len(x.Coeffs) == 10 }) {
			hasNoLeast(t, list, goal)
			failed++
			continue
		}
		got, ok := impl.LeastOf(list, goal)
		same(t, termsText(list, ";"), results(got, ok), results(least, true))
		succeeded++
	}
	if succeeded < 200 || failed < 200 {
		t.Errorf("%d bounds, %d without one", succeeded, failed)
	}
}

// someSequents returns sequents from the lists of facts.
func someSequents() []impl.Sequent {
	list := append(validSequents(), thinSequents(1500)...)
	for _, facts := range slices.Concat(tightLists(1500), manyLists(400)) {
		if last := len(facts) - 1; last >= 0 {
			list = append(list, sequent(facts[last], facts[:last]...))
		}
	}
	return list
}

// TestSequentsAgain holds proofs against the second way, at budgets that are enough and not.
func TestSequentsAgain(t *testing.T) {
	counts := map[string]int{}
	for i, s := range someSequents() {
		what := fmt.Sprint(sequentTexts([]impl.Sequent{s}))
		want, ok := provedAgain(s)
		size := int64(strings.Count(want, "/") + 1)
		budget := []int64{1 + int64(i)%60, size - 1, size}[i%3]
		p, found := impl.ProveSequent(s, budget)
		if !ok || budget < size {
			fails(t, what, p, found)
			counts["open"]++
			continue
		}
		same(t, what, results(textOfNodes(p), found), results(want, true))
		for _, n := range p {
			counts[fmt.Sprint("kind ", n.Kind)]++
		}
		core, ok := impl.CoreOf(s, budget)
		used := slices.DeleteFunc(usedAgain(t, s, p), func(fact int64) bool { return fact == int64(len(s.Facts)) })
		same(t, what, results(core, ok), results(used, true))
	}
	for reason, least := range map[string]int{"open": 500, "kind 1": 500, "kind 2": 60, "kind 3": 200} {
		if counts[reason] < least {
			t.Errorf("%s: only %d", reason, counts[reason])
		}
	}
}

// TestProvedSequentsHold looks for counterexamples of sequents that are proved, and holds the number of nodes against each budget.
func TestProvedSequentsHold(t *testing.T) {
	proved, open := 0, 0
	for _, s := range someSequents() {
		what := fmt.Sprint(sequentTexts([]impl.Sequent{s}))
		values, has := impl.LeastCounter(s, 4)
		p, ok := impl.ProveSequent(s, 60)
		if !ok {
			if has {
				open++
			}
			continue
		}
		isAccepted(t, s, p)
		proved++
		same(t, what, results(values, has), results([]int64(nil), false))
		for _, values := range validValues() {
			same(t, what, impl.IsCounter(s, values), false)
		}
		for _, budget := range []int64{1, 2, 3, 5} {
			short, ok := impl.ProveSequent(s, budget)
			same(t, what, ok, int64(len(p)) <= budget)
			same(t, what, len(short) == len(p), ok)
		}
	}
	if proved < 400 || open < 400 {
		t.Errorf("%d sequents are proved, %d have a counterexample", proved, open)
	}
}

// smallValues returns all values with small numbers for the symbols a and b.
func smallValues() [][]int64 {
	var all [][]int64
	for a := int64(-12); a <= 12; a++ {
		for b := int64(-12); b <= 12; b++ {
			all = append(all, at(a, b))
		}
	}
	return all
}

// TestFactsImplyResults tests rows, cuts and bounds with all small values for which the facts hold.
func TestFactsImplyResults(t *testing.T) {
	counts := map[string]int{}
	for i, list := range tightLists(1500) {
		what := termsText(list, ";")
		var holding [][]int64
		for _, values := range smallValues() {
			if allHold(list, values) {
				holding = append(holding, values)
			}
		}
		if _, ok := impl.RefuteFacts(list); ok {
			same(t, what, len(holding), 0)
			counts["refuted"]++
		}
		implied := impliedBy(t, list, int64(i%2), counts)
		goal := fact(int64(i%5), int64(i%7-3), int64(i%3+1))
		if least, ok := impl.LeastOf(list, goal); ok {
			implied = append(implied, fact(goal.Const-least, goal.Coeffs...))
			counts["bound"]++
		}
		for _, values := range holding {
			if !allHold(implied, values) {
				t.Fatalf("%s: %v is one of the values, but not of %s", what, values, termsText(implied, ";"))
			}
			counts["values"]++
		}
	}
	for what, least := range map[string]int{"refuted": 100, "cut": 100, "bound": 300, "values": 100000, "rows": 500} {
		if counts[what] < least {
			t.Errorf("%s: only %d", what, counts[what])
		}
	}
}

// impliedBy returns the facts without a symbol and the first cut. The multipliers of a cut must refute its opposite, if that is added so often as it is divided.
func impliedBy(t *testing.T, list []impl.Term, symbol int64, counts map[string]int) []impl.Term {
	t.Helper()
	implied, _ := impl.EliminateSymbol(list, symbol)
	for _, x := range implied {
		same(t, "the symbol has gone", len(x.Coeffs) > int(symbol) && x.Coeffs[symbol] != 0, false)
		counts["rows"]++
	}
	cut, multipliers, ok := impl.FirstCut(list)
	if !ok {
		return implied
	}
	counts["cut"]++
	sum := sumAgain(list, multipliers)
	divisor := new(big.Int).GCD(nil, nil, new(big.Int).Abs(sum[0]), new(big.Int).Abs(sum[1]))
	facts := append(slices.Clone(list), oppositeAgain(cut))
	same(t, termsText(facts, ";"), impl.IsRefuted(facts, append(multipliers, divisor.Int64())), true)
	return append(implied, cut)
}

// TestBoundsAreReached finds values for which a goal is as small as LeastOf tells, where all coefficients are 1 or -1.
func TestBoundsAreReached(t *testing.T) {
	for _, c := range [][2]string{{"a-3;b+2;-a+5", "a+b"}, {"a-3;-a+5", "-a"}, {"a-b;b-c;c-4", "a"}, {"a;b;c;d;-a-b-c-d+8", "a+b-c"}, {"a-b-1;b-1;-a+7", "a-b"}} {
		list, goal := listOf(c[0]), termOf(c[1])
		least, ok := impl.LeastOf(list, goal)
		same(t, c[0], ok, true)
		reached := sequent(fact(goal.Const-least-1, goal.Coeffs...), list...)
		values, found := counterUpTo(reached, 8)
		same(t, fmt.Sprint(c, least, values), found, true)
		_, found = counterUpTo(sequent(fact(goal.Const-least, goal.Coeffs...), list...), 8)
		same(t, fmt.Sprint(c, least), found, false)
	}
}

// counterUpTo returns a counterexample with numbers from -reach to reach for the symbols a to d.
func counterUpTo(s impl.Sequent, reach int64) ([]int64, bool) {
	side := 2*reach + 1
	for k := range side * side * side * side {
		values := at(k%side-reach, k/side%side-reach, k/side/side%side-reach, k/side/side/side-reach)
		if allHold(s.Facts, values) && !allHold([]impl.Term{s.Goal}, values) {
			return values, true
		}
	}
	return nil, false
}
