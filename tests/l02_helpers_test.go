package tests

import (
	"math"
	"math/big"
	"math/rand/v2"
	"slices"
	"testing"

	"loop.example/g01105/impl"
)

// fact returns a term, as it is written, valid or not.
func fact(number int64, coeffs ...int64) impl.Term {
	return impl.Term{Const: number, Coeffs: coeffs}
}

// alone returns n times a symbol.
func alone(symbol int, n int64) impl.Term {
	return impl.Term{Coeffs: append(make([]int64, symbol), n)}
}

func factsOf(t impl.Term, count int) []impl.Term {
	return slices.Repeat([]impl.Term{t}, count)
}

// at returns values that are 0 but for those at the beginning.
func at(first ...int64) []int64 {
	return append(slices.Clone(first), make([]int64, 10-len(first))...)
}

func isTerm(t *testing.T, what string, got impl.Term, ok bool, want impl.Term) {
	t.Helper()
	same(t, what, results(got, ok), results(want, true))
}

// wide is a term with coefficients of any size, the last of which is Const.
type wide [11]*big.Int

func wideOf(number int64) wide {
	var w wide
	for i := range w {
		w[i] = new(big.Int)
	}
	w[10].SetInt64(number)
	return w
}

// plus returns w + n t.
func (w wide) plus(n int64, t impl.Term) wide {
	sum := wideOf(0)
	for i := range w {
		part := t.Const
		if i < 10 {
			part = 0
		}
		if i < len(t.Coeffs) {
			part = t.Coeffs[i]
		}
		sum[i].Mul(big.NewInt(n), big.NewInt(part)).Add(sum[i], w[i])
	}
	return sum
}

// isResult requires that a function has returned w, or has failed if this is not a valid term.
func (w wide) isResult(t *testing.T, what string, got impl.Term, ok bool) {
	t.Helper()
	want := fact(w[10].Int64())
	count := 0
	for i, n := range w {
		if n.CmpAbs(big.NewInt(1000000)) > 0 {
			fails(t, what, got, ok)
			return
		}
		if i < 10 && n.Sign() != 0 {
			count = i + 1
		}
	}
	for _, n := range w[:count] {
		want.Coeffs = append(want.Coeffs, n.Int64())
	}
	isTerm(t, what, got, ok, want)
}

// valueOf returns the number that a term is, however great.
func valueOf(t impl.Term, values []*big.Int) *big.Int {
	sum := big.NewInt(t.Const)
	for i, n := range t.Coeffs {
		sum.Add(sum, new(big.Int).Mul(big.NewInt(n), values[i]))
	}
	return sum
}

func bigValues(values []int64) []*big.Int {
	var list []*big.Int
	for _, n := range values {
		list = append(list, big.NewInt(n))
	}
	return list
}

// validTerms are terms with small numbers and at the limits, and others from a fixed seed.
func validTerms() []impl.Term {
	list := []impl.Term{
		fact(0), fact(1), fact(-1), fact(1e6), fact(-1e6), fact(999999), fact(-999999), fact(3, 2, -1), fact(-4, -2, 1), fact(7, 4, -6), fact(-7, 4, -6),
		alone(0, 1), alone(0, -1), alone(9, 1), alone(9, -1e6), alone(3, 1e6), fact(1e6, repeated(1e6, 10)...), fact(-1e6, repeated(-1e6, 10)...),
		fact(5, 0, 0, 3), fact(0, 1e6, 0, -1e6), fact(0, 1, 1), fact(0, 1, -1), fact(2, 500000, 500001), fact(0, 0, 1000, 1001), fact(0, 1, 2, 3, 4, 5, 6, 7, 8, 9, 10),
	}
	random := rand.New(rand.NewPCG(1, 2))
	for range 25 {
		limit := []int64{2, 12, 1000, 1000000}[random.IntN(4)]
		number := func() int64 { return random.Int64N(2*limit+1) - limit }
		t := fact(number())
		for range random.IntN(10) {
			t.Coeffs = append(t.Coeffs, number()*random.Int64N(2))
		}
		list = append(list, fact(t.Const, append(t.Coeffs, 1+random.Int64N(limit))...))
	}
	return list
}

func badTerms() []impl.Term {
	return []impl.Term{
		fact(0, 0), fact(1, 1, 0), fact(3, 0, 0), fact(0, make([]int64, 10)...), fact(0, append(repeated(1, 9), 0)...), fact(0, repeated(1, 11)...), fact(0, append(repeated(0, 10), 1)...),
		fact(0, append(repeated(1, 10), 0)...), fact(1e6 + 1), fact(-1e6 - 1), fact(0, 1e6+1), fact(0, -1e6-1), fact(0, 1e6+1, 1), fact(0, 1, -1e6-1), fact(math.MaxInt64), fact(math.MinInt64),
		fact(0, math.MaxInt64), fact(0, math.MinInt64), fact(0, math.MinInt64, 1), fact(0, repeated(1, 100000)...), fact(math.MinInt64, repeated(math.MinInt64, 10)...),
	}
}

func validValues() [][]int64 {
	list := [][]int64{
		at(), at(1, 10), at(-1), at(0, 0, 0, 1), repeated(1, 10), repeated(-1, 10), repeated(1e9, 10), repeated(-1e9, 10),
		{1, 2, 3, 4, 5, 6, 7, 8, 9, 10}, {1e9, -1e9, 1e9, -1e9, 1e9, -1e9, 1e9, -1e9, 1e9, -1e9}, at(1e9), append(make([]int64, 9), -1e9),
	}
	random := rand.New(rand.NewPCG(3, 4))
	for range 20 {
		limit := []int64{1, 4, 1000, 1000000000}[random.IntN(4)]
		values := make([]int64, 10)
		for i := range values {
			values[i] = random.Int64N(2*limit+1) - limit
		}
		list = append(list, values)
	}
	return list
}

func badValues() [][]int64 {
	return [][]int64{
		nil, {}, {1, 10}, make([]int64, 9), make([]int64, 11), repeated(1, 11), repeated(0, 100000), at(1e9 + 1), at(-1e9 - 1), at(0, math.MaxInt64), at(math.MinInt64),
		append(make([]int64, 9), 1e9+1), append(make([]int64, 9), -1e9-1),
	}
}

// badLists are no lists of terms for any function that takes one.
func badLists() [][]impl.Term {
	lists := [][]impl.Term{factsOf(fact(0), 15), factsOf(alone(0, 1), 100000)}
	for _, bad := range badTerms() {
		lists = append(lists, []impl.Term{bad}, []impl.Term{fact(1), bad}, []impl.Term{bad, alone(1, 1)})
	}
	return lists
}
