package tests

import (
	"fmt"
	"math/big"
	"slices"
	"strings"

	"loop.example/g01105/impl"
)

// sumAgain returns the exact sum of facts, each times its multiplier.
func sumAgain(facts []impl.Term, multipliers []int64) wide {
	sum := wideOf(0)
	for i, n := range multipliers {
		sum = sum.plus(n, facts[i])
	}
	return sum
}

// narrow returns the term that a sum is, whose numbers need not be small.
func (w wide) narrow() impl.Term {
	x := fact(w[10].Int64())
	for i, n := range w[:10] {
		if n.Sign() != 0 {
			x.Coeffs = append(x.Coeffs, make([]int64, i+1-len(x.Coeffs))...)
			x.Coeffs[i] = n.Int64()
		}
	}
	return x
}

// stagesAgain are the stages of an elimination by another way: a row is nothing but its multipliers, from which its term is computed whenever it is needed. As a divisor of all multipliers divides the term too, a row is divided by theirs alone.
type stagesAgain struct {
	facts []impl.Term
	// rows are those behind the last stage, and fresh are the new ones of all stages.
	rows, fresh [][]int64
	// counts has the number of rows behind each stage.
	counts []int
	ok     bool
}

func stagesOf(facts []impl.Term, symbols ...int) *stagesAgain {
	x := &stagesAgain{facts: facts, ok: true}
	for i := range facts {
		row := make([]int64, len(facts))
		row[i] = 1
		x.rows = append(x.rows, row)
	}
	for _, symbol := range symbols {
		x.stage(symbol)
		if !x.ok {
			return x
		}
	}
	return x
}

// allSymbols returns the symbols before one.
func allSymbols(behind int) []int {
	var list []int
	for symbol := range behind {
		list = append(list, symbol)
	}
	return list
}

func (x *stagesAgain) stage(symbol int) {
	coeffs := make([]int64, len(x.rows))
	for i, row := range x.rows {
		coeffs[i] = sumAgain(x.facts, row)[symbol].Int64()
	}
	var kept, fresh [][]int64
	for i, p := range x.rows {
		if coeffs[i] == 0 {
			kept = append(kept, p)
		}
		for k, q := range x.rows {
			if coeffs[i] > 0 && coeffs[k] < 0 {
				fresh = append(fresh, joinedAgain(p, q, big.NewInt(coeffs[i]), big.NewInt(-coeffs[k])))
			}
		}
	}
	x.rows = slices.Concat(kept, fresh)
	x.fresh = append(x.fresh, fresh...)
	x.counts = append(x.counts, len(x.rows))
	x.ok = len(x.rows) <= 60 && !slices.ContainsFunc(fresh, func(row []int64) bool { return !x.isSmall(row) })
}

// joinedAgain returns the multipliers of the new row of p and q with the coefficients m and -n.
func joinedAgain(p, q []int64, m, n *big.Int) []int64 {
	common := new(big.Int).GCD(nil, nil, m, n)
	divisor := new(big.Int)
	var sums []*big.Int
	for i := range p {
		one := new(big.Int).Mul(new(big.Int).Div(n, common), big.NewInt(p[i]))
		two := new(big.Int).Mul(new(big.Int).Div(m, common), big.NewInt(q[i]))
		sums = append(sums, one.Add(one, two))
		divisor.GCD(nil, nil, divisor, one)
	}
	var row []int64
	for _, sum := range sums {
		row = append(row, sum.Div(sum, divisor).Int64())
	}
	return row
}

// isSmall reports whether all numbers of a row are -1000000 to 1000000.
func (x *stagesAgain) isSmall(row []int64) bool {
	numbers := sumAgain(x.facts, row)
	for _, n := range slices.Concat(numbers[:], bigValues(row)) {
		if n.CmpAbs(big.NewInt(1000000)) > 0 {
			return false
		}
	}
	return true
}

// terms returns the terms of rows.
func (x *stagesAgain) terms() []impl.Term {
	var list []impl.Term
	for _, row := range x.rows {
		list = append(list, sumAgain(x.facts, row).narrow())
	}
	return list
}

// refutation returns the multipliers of the first negative row.
func (x *stagesAgain) refutation() ([]int64, bool) {
	for i, t := range x.terms() {
		if x.ok && t.Const < 0 {
			return x.rows[i], true
		}
	}
	return nil, false
}

// isNews reports whether a fact says more when it is tightened, and this is not in the list yet.
func isNews(x impl.Term, list []impl.Term) bool {
	divisor := divisorAgain(x)
	if divisor.Cmp(big.NewInt(1)) <= 0 || new(big.Int).Mod(big.NewInt(x.Const), divisor).Sign() == 0 {
		return false
	}
	return !slices.Contains(strings.Split(termsText(list, ";"), ";"), strings.TrimSuffix(termsText([]impl.Term{tightenedAgain(x)}, ";"), ";"))
}

// cuts returns the tightened terms of all cuts, and the multipliers of their rows.
func (x *stagesAgain) cuts() ([]impl.Term, [][]int64) {
	var terms []impl.Term
	var rows [][]int64
	for _, row := range x.fresh {
		if t := sumAgain(x.facts, row).narrow(); x.ok && isNews(t, x.facts) {
			terms = append(terms, tightenedAgain(t))
			rows = append(rows, row)
		}
	}
	return terms, rows
}

// leastAgain returns the greatest of the numbers that the last symbol is at least.
func leastAgain(list []impl.Term, goal impl.Term) (int64, bool) {
	added := wideOf(0).plus(-1, goal).plus(1, alone(9, 1)).narrow()
	x := stagesOf(append(slices.Clone(list), added), allSymbols(9)...)
	least, found := new(big.Int), false
	if !x.ok {
		return 0, false
	}
	for _, t := range x.terms() {
		if len(t.Coeffs) == 0 {
			if t.Const < 0 {
				return 0, false
			}
			continue
		}
		// A quotient that is not a whole number is less than the one that it is rounded up to.
		quotient, rest := new(big.Int).DivMod(big.NewInt(-t.Const), big.NewInt(t.Coeffs[9]), new(big.Int))
		if rest.Sign() > 0 {
			quotient.Add(quotient, big.NewInt(1))
		}
		if !found || quotient.Cmp(least) > 0 {
			least, found = quotient, true
		}
	}
	return least.Int64(), found
}

// proofAgain returns the texts of the nodes that a prover without a budget writes for a list of facts.
func proofAgain(list []impl.Term) ([]string, bool) {
	for i, x := range list {
		if isNews(x, list) {
			rest, ok := behindAgain(list, tightenedAgain(x))
			return append([]string{fmt.Sprint("t", i)}, rest...), ok
		}
	}
	x := stagesOf(list, allSymbols(10)...)
	if multipliers, ok := x.refutation(); ok {
		return nodeTexts([]impl.Node{closing(multipliers...)}), true
	}
	terms, rows := x.cuts()
	if len(terms) == 0 {
		return nil, false
	}
	divisor := divisorAgain(sumAgain(list, rows[0]).narrow()).Int64()
	rest, ok := behindAgain(list, terms[0])
	ends := nodeTexts([]impl.Node{splitting(terms[0]), closing(append(slices.Clone(rows[0]), divisor)...)})
	return slices.Concat(ends[:1], rest, ends[1:]), ok
}

// behindAgain goes on with one more fact.
func behindAgain(list []impl.Term, added impl.Term) ([]string, bool) {
	if len(list) >= 14 {
		return nil, false
	}
	return proofAgain(append(slices.Clone(list), added))
}

// provedAgain returns the text of the proof of a valid sequent, without a budget.
func provedAgain(s impl.Sequent) (string, bool) {
	if s.Goal.Const >= 1000000 {
		return "", false
	}
	texts, ok := proofAgain(contextAgain(s))
	return strings.Join(texts, "/"), ok
}
