package tests

import (
	"math"
	"math/big"
	"slices"
	"testing"

	"loop.example/g01105/impl"
)

func TestLimitsOfChapter2(t *testing.T) {
	limits := []int64{impl.MaxVars, impl.MaxSymbols, impl.MaxCoeff, impl.MaxFacts, impl.MaxNumber, impl.MaxReach, impl.MaxSearched}
	same(t, "limits", limits, []int64{4, 10, 1000000, 14, 1000000000, 4, 4})
}

func TestValidTerm(t *testing.T) {
	for _, x := range validTerms() {
		same(t, shown(x), impl.ValidTerm(x), true)
	}
	for _, x := range badTerms() {
		same(t, shown(x), impl.ValidTerm(x), false)
	}
}

func TestSameTerm(t *testing.T) {
	terms := validTerms()
	for i, a := range terms {
		for j, b := range terms {
			same(t, shown(a)+shown(b), impl.SameTerm(a, b), i == j || a.Const == b.Const && slices.Equal(a.Coeffs, b.Coeffs))
		}
		same(t, "a copy", impl.SameTerm(a, fact(a.Const, slices.Clone(a.Coeffs)...)), true)
	}
	same(t, "nil and empty", impl.SameTerm(impl.Term{Const: 2}, impl.Term{Const: 2, Coeffs: []int64{}}), true)
	for _, pair := range [][2]impl.Term{{fact(1), fact(2)}, {fact(1), fact(0, 1)}, {alone(0, 1), alone(1, 1)}, {fact(1, 2), fact(2, 1)}, {fact(1, 2), fact(1, 2, 3)}, {fact(0, 1), fact(0, -1)}, {fact(1), fact(-1)}} {
		same(t, shown(pair), impl.SameTerm(pair[0], pair[1]), false)
	}
	for _, bad := range badTerms() {
		same(t, shown(bad), impl.SameTerm(bad, bad), false)
		same(t, shown(bad), impl.SameTerm(bad, fact(0)) || impl.SameTerm(fact(0), bad), false)
	}
	same(t, "zeros at the end", impl.SameTerm(fact(1, 2), fact(1, 2, 0)), false)
}

func TestAddTerms(t *testing.T) {
	cases := [][3]impl.Term{
		{fact(3, 2, -1), fact(-4, -2, 1), fact(-1)}, {fact(0), fact(0), fact(0)}, {fact(1, 1), fact(2, 0, 5), fact(3, 1, 5)}, {fact(0, 1, 2, 3), fact(0, 0, -2, -3), fact(0, 1)},
		{fact(999999), fact(1), fact(1e6)}, {fact(-999999, 1), fact(-1, -1), fact(-1e6)}, {fact(0, 600000), fact(0, 400000), fact(0, 1e6)}, {fact(0, -600000, 1), fact(0, -400000), fact(0, -1e6, 1)},
		{fact(1e6, 1e6), fact(-1e6, -1e6), fact(0)}, {alone(9, 7), alone(9, -7), fact(0)}, {alone(9, 7), alone(0, 1), fact(0, 1, 0, 0, 0, 0, 0, 0, 0, 0, 7)},
	}
	for _, c := range cases {
		sum, ok := impl.AddTerms(c[0], c[1])
		isTerm(t, "AddTerms", sum, ok, c[2])
		sum, ok = impl.AddTerms(c[1], c[0])
		isTerm(t, "AddTerms", sum, ok, c[2])
	}
	for _, c := range [][2]impl.Term{{fact(1e6), fact(1)}, {fact(-1e6), fact(-1)}, {fact(0, 1e6), fact(0, 1)}, {fact(0, -1e6, 1), fact(0, -1)}, {alone(9, 500001), alone(9, 500000)}, {fact(1e6, 1), fact(1e6, -1)}} {
		sum, ok := impl.AddTerms(c[0], c[1])
		fails(t, "AddTerms", sum, ok)
	}
	for _, a := range validTerms() {
		for _, b := range validTerms() {
			sum, ok := impl.AddTerms(a, b)
			wideOf(0).plus(1, a).plus(1, b).isResult(t, "AddTerms", sum, ok)
		}
		for _, bad := range badTerms() {
			sum, ok := impl.AddTerms(a, bad)
			fails(t, "AddTerms", sum, ok)
			sum, ok = impl.AddTerms(bad, a)
			fails(t, "AddTerms", sum, ok)
		}
	}
}

func TestScaleTerm(t *testing.T) {
	cases := []struct {
		t    impl.Term
		n    int64
		want impl.Term
	}{
		{fact(3, 2, -1), -2, fact(-6, -4, 2)}, {fact(3, 2, -1), 0, fact(0)}, {fact(3, 2, -1), 1, fact(3, 2, -1)}, {fact(0), 1e6, fact(0)}, {fact(0), -1e6, fact(0)},
		{fact(1, -1), 1e6, fact(1e6, -1e6)}, {fact(1, -1), -1e6, fact(-1e6, 1e6)}, {fact(1e6, 1e6), 0, fact(0)}, {fact(1e6, 1e6), -1, fact(-1e6, -1e6)}, {fact(500000), 2, fact(1e6)},
	}
	for _, c := range cases {
		product, ok := impl.ScaleTerm(c.t, c.n)
		isTerm(t, "ScaleTerm", product, ok, c.want)
	}
	for _, x := range validTerms() {
		for _, n := range []int64{0, 1, -1, 2, -2, 3, 7, -100, 1000, 1001, 999999, -999999, 1e6, -1e6} {
			product, ok := impl.ScaleTerm(x, n)
			wideOf(0).plus(n, x).isResult(t, "ScaleTerm", product, ok)
		}
		for _, n := range []int64{1e6 + 1, -1e6 - 1, 1e9, math.MaxInt64, math.MinInt64, 1 << 32, 1 << 62} {
			product, ok := impl.ScaleTerm(x, n)
			fails(t, "ScaleTerm", product, ok)
		}
	}
	for _, bad := range badTerms() {
		for _, n := range []int64{0, 1, -1} {
			product, ok := impl.ScaleTerm(bad, n)
			fails(t, "ScaleTerm", product, ok)
		}
	}
}

func TestOppositeOf(t *testing.T) {
	cases := [][2]impl.Term{
		{fact(3, 2, -1), fact(-4, -2, 1)}, {fact(0), fact(-1)}, {fact(-1), fact(0)}, {fact(-1, 1), fact(0, -1)}, {fact(999999), fact(-1e6)}, {fact(-1e6), fact(999999)}, {alone(9, 1e6), fact(-1, 0, 0, 0, 0, 0, 0, 0, 0, 0, -1e6)},
	}
	for _, c := range cases {
		opposite, ok := impl.OppositeOf(c[0])
		isTerm(t, "OppositeOf", opposite, ok, c[1])
	}
	for _, x := range append(badTerms(), fact(1e6), fact(1e6, 1), fact(1e6, repeated(-1e6, 10)...)) {
		opposite, ok := impl.OppositeOf(x)
		fails(t, "OppositeOf", opposite, ok)
	}
	for _, x := range validTerms() {
		opposite, ok := impl.OppositeOf(x)
		wideOf(-1).plus(-1, x).isResult(t, "OppositeOf", opposite, ok)
		for _, values := range validValues() {
			n, _ := impl.EvalTerm(x, values)
			m, _ := impl.EvalTerm(opposite, values)
			if ok && (n >= 0) == (m >= 0) {
				t.Errorf("%v and its opposite both hold, or none of them: %v", x, values)
			}
		}
	}
}

func TestSubstituteTerm(t *testing.T) {
	x := fact(3, 2, -1)
	cases := []struct {
		t    impl.Term
		list []impl.Term
		want impl.Term
	}{
		{x, []impl.Term{alone(1, 1), fact(5)}, fact(-2, 0, 2)}, {x, nil, x}, {x, []impl.Term{alone(1, 1), alone(0, 1)}, fact(3, -1, 2)}, {x, []impl.Term{alone(1, 1)}, fact(3, 0, 1)},
		{x, []impl.Term{fact(0), fact(0)}, fact(3)}, {fact(0), factsOf(fact(1e6), 10), fact(0)}, {fact(7), factsOf(alone(0, 1e6), 10), fact(7)}, {alone(9, 2), factsOf(fact(1), 9), alone(9, 2)}, {alone(9, 2), factsOf(fact(1), 10), fact(2)},
		{fact(0, 1, 1), []impl.Term{alone(1, 1)}, fact(0, 0, 2)}, {fact(0, 1, 1), []impl.Term{alone(1, -1)}, fact(0)}, {fact(0, 1e6, -1e6), []impl.Term{alone(2, 1e6), alone(2, 1e6)}, fact(0)},
		{fact(-1e6, 1e6, 1e6, -1e6), []impl.Term{fact(1e6), fact(1), fact(1e6)}, fact(0)}, {alone(0, 1), []impl.Term{fact(1e6, repeated(-1e6, 10)...)}, fact(1e6, repeated(-1e6, 10)...)},
	}
	for _, c := range cases {
		got, ok := impl.SubstituteTerm(c.t, c.list)
		isTerm(t, "SubstituteTerm", got, ok, c.want)
	}
	for _, list := range append(badLists(), factsOf(fact(0), 11), factsOf(alone(0, 1), 11)) {
		got, ok := impl.SubstituteTerm(x, list)
		fails(t, "SubstituteTerm", got, ok)
		got, ok = impl.SubstituteTerm(fact(0), list)
		fails(t, "SubstituteTerm", got, ok)
	}
	for _, c := range [][2]impl.Term{{fact(1, 1e6), fact(1)}, {fact(0, 2), fact(500001)}, {fact(0, 2), alone(0, -500001)}, {fact(1e6, 1), fact(1)}} {
		got, ok := impl.SubstituteTerm(c[0], []impl.Term{c[1]})
		fails(t, "SubstituteTerm", got, ok)
	}
	for _, bad := range badTerms() {
		got, ok := impl.SubstituteTerm(bad, []impl.Term{fact(0)})
		fails(t, "SubstituteTerm", got, ok)
	}
}

func TestSubstitutedNumbers(t *testing.T) {
	terms := validTerms()
	for i, x := range terms {
		for count := range 11 {
			var list []impl.Term
			for j := range count {
				list = append(list, terms[(i*7+j*5+count)%len(terms)])
			}
			sum := wideOf(x.Const)
			for symbol, n := range x.Coeffs {
				if symbol < count {
					sum = sum.plus(n, list[symbol])
				} else {
					sum = sum.plus(n, alone(symbol, 1))
				}
			}
			got, ok := impl.SubstituteTerm(x, list)
			sum.isResult(t, "SubstituteTerm", got, ok)
			for _, values := range validValues() {
				before, after := bigValues(values), bigValues(values)
				for j := range list {
					after[j] = valueOf(list[j], before)
				}
				if n, _ := impl.EvalTerm(got, values); ok && valueOf(x, after).Cmp(big.NewInt(n)) != 0 {
					t.Errorf("%v with %v is %v", x, list, got)
				}
			}
		}
	}
}

func TestEvalTerm(t *testing.T) {
	cases := []struct {
		t      impl.Term
		values []int64
		n      int64
	}{
		{fact(3, 2, -1), at(1, 10), -5}, {fact(0), at(), 0}, {fact(-7), repeated(1e9, 10), -7}, {alone(9, 3), []int64{1, 2, 3, 4, 5, 6, 7, 8, 9, 10}, 30},
		{fact(1e6, repeated(1e6, 10)...), repeated(1e9, 10), 1e16 + 1e6}, {fact(-1e6, repeated(1e6, 10)...), repeated(-1e9, 10), -1e16 - 1e6},
	}
	for _, c := range cases {
		n, ok := impl.EvalTerm(c.t, c.values)
		same(t, shown(c.t), results(n, ok), results(c.n, true))
	}
	for _, x := range validTerms() {
		for _, values := range validValues() {
			n, ok := impl.EvalTerm(x, values)
			same(t, shown(x), results(big.NewInt(n).String(), ok), results(valueOf(x, bigValues(values)).String(), true))
		}
		for _, values := range badValues() {
			n, ok := impl.EvalTerm(x, values)
			fails(t, shown(values), n, ok)
		}
	}
	for _, bad := range badTerms() {
		n, ok := impl.EvalTerm(bad, at())
		fails(t, shown(bad), n, ok)
	}
}

func TestSymbolsOf(t *testing.T) {
	all := []int64{0, 1, 2, 3, 4, 5, 6, 7, 8, 9}
	cases := []struct {
		list []impl.Term
		set  []int64
	}{
		{nil, nil}, {[]impl.Term{fact(0)}, nil}, {factsOf(fact(5), 14), nil}, {[]impl.Term{fact(3, 2, -1), alone(3, 7)}, []int64{0, 1, 3}}, {[]impl.Term{alone(9, 1), alone(0, -1)}, []int64{0, 9}},
		{[]impl.Term{fact(1, 0, 5, 0, -5)}, []int64{1, 3}}, {[]impl.Term{fact(0, repeated(1, 10)...)}, all}, {append(factsOf(alone(2, 1), 13), alone(1, 1)), []int64{1, 2}}, {[]impl.Term{alone(4, 3), alone(4, -3)}, []int64{4}},
	}
	for i := range 10 {
		cases = append(cases, struct {
			list []impl.Term
			set  []int64
		}{[]impl.Term{alone(9-i, 1), alone(i, 1), alone(9-i, -1)}, slices.Compact([]int64{int64(min(i, 9-i)), int64(max(i, 9-i))})})
	}
	for _, c := range cases {
		set, ok := impl.SymbolsOf(c.list)
		same(t, shown(c.list), results(set, ok), results(c.set, true))
	}
	for _, list := range badLists() {
		set, ok := impl.SymbolsOf(list)
		fails(t, "SymbolsOf", set, ok)
	}
}

func TestTightenTerm(t *testing.T) {
	cases := [][2]impl.Term{
		{fact(7, 4, -6), fact(3, 2, -3)}, {fact(-7, 4, -6), fact(-4, 2, -3)}, {fact(6, 4, -6), fact(3, 2, -3)}, {fact(-6, 4, -6), fact(-3, 2, -3)}, {fact(0, 2), fact(0, 1)}, {fact(1, -2), fact(0, -1)}, {fact(-1, -2), fact(-1, -1)},
		{fact(-1, 1e6), fact(-1, 1)}, {fact(1, -1e6), fact(0, -1)}, {fact(-1e6, 3), fact(-333334, 1)}, {fact(1e6, 3), fact(333333, 1)}, {fact(-1e6, repeated(-1e6, 10)...), fact(-1, repeated(-1, 10)...)}, {fact(999999, 1e6), fact(0, 1)},
		{fact(-999999, 0, 1e6), fact(-1, 0, 1)}, {fact(5, 0, 6, 0, -9), fact(1, 0, 2, 0, -3)}, {alone(9, -8), alone(9, -1)}, {fact(-5, 6, 10, 14), fact(-3, 3, 5, 7)},
	}
	for _, c := range cases {
		tight, ok := impl.TightenTerm(c[0])
		isTerm(t, "TightenTerm", tight, ok, c[1])
	}
	bad := append(badTerms(), fact(0), fact(6), fact(-1e6), fact(3, 2, -1), fact(4, 1), fact(4, -1), fact(6, 6, 10, 15), alone(9, -1), fact(0, 1e6, 999999))
	for _, x := range bad {
		tight, ok := impl.TightenTerm(x)
		fails(t, "TightenTerm", tight, ok)
	}
}

// TestTightenedFacts holds tightened facts against values, near to where they begin to hold, and beside others.
func TestTightenedFacts(t *testing.T) {
	for number := int64(-30); number <= 30; number++ {
		for a := int64(-8); a <= 8; a++ {
			for b := int64(-8); b <= 8; b++ {
				x := fact(number, a, b)
				tight, ok := impl.TightenTerm(x)
				common := new(big.Int).GCD(nil, nil, big.NewInt(max(a, -a)), big.NewInt(max(b, -b))).Int64()
				same(t, shown(x), ok, b != 0 && common > 1)
				for n := int64(-81); ok && n < 81; n++ {
					values := at(n/9, n%9)
					before, _ := impl.EvalTerm(x, values)
					after, _ := impl.EvalTerm(tight, values)
					if (before >= 0) != (after >= 0) {
						t.Errorf("%v and %v differ for %v", x, tight, values)
					}
				}
			}
		}
	}
}

func TestCombineTerms(t *testing.T) {
	x, not := fact(3, 2, -1), fact(-4, -2, 1)
	cases := []struct {
		list        []impl.Term
		multipliers []int64
		want        impl.Term
	}{
		{[]impl.Term{x, not}, []int64{1, 3}, fact(-9, -4, 2)}, {[]impl.Term{x, not}, []int64{1, 1}, fact(-1)}, {nil, nil, fact(0)}, {[]impl.Term{x}, []int64{0}, fact(0)}, {[]impl.Term{x}, []int64{1}, x},
		{[]impl.Term{fact(1e6, 1e6), fact(-1e6, -1e6)}, []int64{1e6, 1e6}, fact(0)}, {[]impl.Term{fact(1e6, 1e6), fact(-1e6, -1e6), x}, []int64{1e6, 1e6, 1}, x},
		{[]impl.Term{fact(1), alone(0, -1)}, []int64{1e6, 1e6}, fact(1e6, -1e6)}, {factsOf(fact(1, 1), 14), repeated(71428, 14), fact(999992, 999992)},
		{append(factsOf(fact(1e6, 0, 1e6), 7), factsOf(fact(-1e6, 0, -1e6), 7)...), repeated(1e6, 14), fact(0)}, {[]impl.Term{fact(600000), fact(600000), fact(-600000)}, []int64{1, 1, 1}, fact(600000)},
		{[]impl.Term{alone(5, 1), alone(9, 2), alone(9, -4)}, []int64{3, 2, 1}, alone(5, 3)},
	}
	for _, c := range cases {
		sum, ok := impl.CombineTerms(c.list, c.multipliers)
		isTerm(t, "CombineTerms", sum, ok, c.want)
	}
	bad := []struct {
		list        []impl.Term
		multipliers []int64
	}{
		{[]impl.Term{x}, nil}, {nil, []int64{0}}, {[]impl.Term{x}, []int64{1, 0}}, {[]impl.Term{x, not}, []int64{1}}, {[]impl.Term{fact(0)}, []int64{-1}}, {[]impl.Term{fact(0)}, []int64{1e6 + 1}}, {[]impl.Term{fact(0)}, []int64{math.MinInt64}},
		{[]impl.Term{fact(0)}, []int64{math.MaxInt64}}, {[]impl.Term{fact(2)}, []int64{500001}}, {[]impl.Term{alone(1, -2)}, []int64{500001}}, {[]impl.Term{fact(1e6), fact(1)}, []int64{1, 1}}, {factsOf(fact(0), 15), repeated(0, 15)},
		{factsOf(fact(1e6, 1e6), 14), repeated(1e6, 14)}, {[]impl.Term{alone(0, 1), fact(0), alone(0, -1)}, []int64{1, -1, 1}},
	}
	for _, c := range bad {
		sum, ok := impl.CombineTerms(c.list, c.multipliers)
		fails(t, "CombineTerms", sum, ok)
	}
	for _, list := range badLists() {
		sum, ok := impl.CombineTerms(list, repeated(0, len(list)))
		fails(t, "CombineTerms", sum, ok)
	}
}

// TestCombinedFacts compares sums with exact ones: they are the sums of the numbers, so they hold where all facts do.
func TestCombinedFacts(t *testing.T) {
	terms := validTerms()
	multipliers := []int64{0, 1, 2, 5, 1, 1000, 0, 1, 1e6, 3}
	for i := range terms {
		for count := range 15 {
			var list []impl.Term
			var numbers []int64
			sum := wideOf(0)
			for j := range count {
				list = append(list, terms[(3*i+11*j)%len(terms)])
				numbers = append(numbers, multipliers[(i+3*j+count)%len(multipliers)])
				sum = sum.plus(numbers[j], list[j])
			}
			got, ok := impl.CombineTerms(list, numbers)
			sum.isResult(t, "CombineTerms", got, ok)
			for _, values := range validValues() {
				n, _ := impl.EvalTerm(got, values)
				if ok && n < 0 && allHold(list, values) {
					t.Errorf("%v does not hold, but %v do", got, list)
				}
			}
		}
	}
}

func allHold(list []impl.Term, values []int64) bool {
	for _, x := range list {
		if valueOf(x, bigValues(values)).Sign() < 0 {
			return false
		}
	}
	return true
}
