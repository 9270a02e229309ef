package tests

import (
	"math"
	"strconv"
	"strings"
	"testing"

	"loop.example/g01105/impl"
)

func TestLimitsOfChapter1(t *testing.T) {
	same(t, "limits", []int64{impl.MaxName, impl.MaxValue, impl.MaxCoded, impl.MaxItems, impl.MaxBytes, impl.CheckPrime}, []int64{10, 1e9, 1e15, 100, 40000, 65521})
}

func TestIsName(t *testing.T) {
	for _, s := range []string{"a", "z", "m", "abcdefghij", "zzzzzzzzzz"} {
		if !impl.IsName(s) {
			t.Errorf("%q is a name", s)
		}
	}
	bad := []string{"", "abcdefghijk", strings.Repeat("a", 40001), "A", "aB", "a1", "1a", "a b", " a", "a ", "a\n", "a_", "\u00e4", "a\u00e4", "\xff", "a\xff", "\x00", "\u0430"}
	for _, s := range bad {
		if impl.IsName(s) {
			t.Errorf("%q is no name", s)
		}
	}
	for b := range 256 {
		s := string([]byte{byte(b)})
		letter := strings.Contains("abcdefghijklmnopqrstuvwxyz", s)
		same(t, strconv.Quote(s), impl.IsName(s), letter)
		same(t, strconv.Quote("a"+s), impl.IsName("a"+s), letter)
	}
}

func TestDecimal(t *testing.T) {
	texts := map[int64]string{
		0: "0", 7: "7", -7: "-7", 10: "10", -100: "-100", 1000000001: "1000000001",
		math.MaxInt64: "9223372036854775807", math.MinInt64: "-9223372036854775808",
	}
	for n, text := range texts {
		same(t, "Decimal", impl.Decimal(n), text)
	}
}

func TestReadDecimal(t *testing.T) {
	for _, n := range []int64{0, 1, -1, 9, 10, -10, 123456789, -123456789, 999999999, -999999999, 1000000000, -1000000000} {
		got, ok := impl.ReadDecimal(impl.Decimal(n))
		same(t, impl.Decimal(n), results(got, ok), results(n, true))
	}
	for n := int64(-1200); n <= 1200; n++ {
		got, ok := impl.ReadDecimal(strconv.FormatInt(n, 10))
		same(t, impl.Decimal(n), results(got, ok), results(n, true))
	}
	bad := []string{
		"", "-", "+", "+1", "-0", "+0", "00", "01", "-01", "007", " 1", "1 ", "1\n", "--1", "1-", "1_0", "0x1", "1.0", "1e3", "a", "\u0661",
		"1000000001", "-1000000001", "10000000000", "9223372036854775807", "-9223372036854775808", "9223372036854775808",
		"18446744073709551617", "99999999999999999999", "01000000000", strings.Repeat("0", 1000), strings.Repeat("9", 1000), "1\x00",
	}
	for _, s := range bad {
		n, ok := impl.ReadDecimal(s)
		fails(t, "ReadDecimal "+s, n, ok)
	}
}

func TestDivFloor(t *testing.T) {
	cases := [][3]int64{
		{7, 2, 3}, {-7, 2, -4}, {6, 3, 2}, {-6, 3, -2}, {0, 5, 0}, {1, 5, 0}, {-1, 5, -1}, {-5, 5, -1}, {-6, 5, -2}, {4, 1, 4}, {-4, 1, -4},
		{1e15, 1, 1e15}, {-1e15, 1, -1e15}, {1e15, 1e15, 1}, {-1e15, 1e15, -1}, {1e15 - 1, 1e15, 0}, {1 - 1e15, 1e15, -1}, {-1, 1e15, -1}, {-1e15, 3, -333333333333334},
	}
	for _, c := range cases {
		q, ok := impl.DivFloor(c[0], c[1])
		same(t, impl.Decimal(c[0])+" / "+impl.Decimal(c[1]), results(q, ok), results(c[2], true))
	}
	for a := int64(-60); a <= 60; a++ {
		for b := int64(1); b <= 15; b++ {
			q, ok := impl.DivFloor(a, b)
			if !ok || q*b > a || (q+1)*b <= a {
				t.Errorf("%d / %d is not %d", a, b, q)
			}
		}
	}
	for _, c := range [][2]int64{{7, 0}, {0, 0}, {7, -1}, {7, -2}, {1, 1e15 + 1}, {1e15 + 1, 1}, {-1e15 - 1, 1}, {math.MinInt64, 1}, {math.MaxInt64, 1}, {math.MinInt64, -1}, {1, math.MaxInt64}, {1, math.MinInt64}} {
		q, ok := impl.DivFloor(c[0], c[1])
		fails(t, impl.Decimal(c[0])+" / "+impl.Decimal(c[1]), q, ok)
	}
}

// divides reports whether d is the greatest number that divides a and b.
func divides(d, a, b int64) bool {
	for e := int64(30); e > 0; e-- {
		if a%e == 0 && b%e == 0 {
			return d == e
		}
	}
	return false
}

func TestGcdOf(t *testing.T) {
	cases := []struct {
		list    []int64
		divisor int64
	}{
		{nil, 0}, {[]int64{}, 0}, {[]int64{0}, 0}, {[]int64{0, 0, 0}, 0}, {[]int64{5}, 5}, {[]int64{-5}, 5}, {[]int64{4, -6}, 2}, {[]int64{-4, -6}, 2},
		{[]int64{0, 6}, 6}, {[]int64{6, 0}, 6}, {[]int64{-6, 0}, 6}, {[]int64{6, 10, 15}, 1}, {[]int64{12, 18, 30}, 6}, {[]int64{7, 1}, 1},
		{[]int64{1e15, -1e15}, 1e15}, {[]int64{-1e15}, 1e15}, {[]int64{1e15, 1e15 - 1}, 1}, {repeated(-12, 100), 12},
	}
	for _, c := range cases {
		d, ok := impl.GcdOf(c.list)
		same(t, "GcdOf", results(d, ok), results(c.divisor, true))
	}
	for a := int64(-30); a <= 30; a++ {
		for b := int64(-30); b <= 30; b++ {
			d, ok := impl.GcdOf([]int64{a, b})
			if !ok || (a != 0 || b != 0) && !divides(d, a, b) {
				t.Errorf("the divisor of %d and %d is not %d", a, b, d)
			}
		}
	}
	for _, list := range [][]int64{repeated(0, 101), repeated(2, 101), {1e15 + 1}, {-1e15 - 1}, {2, 4, math.MinInt64}, {math.MaxInt64, 2}, {1, 1, 1e15 + 1}} {
		d, ok := impl.GcdOf(list)
		fails(t, "GcdOf", d, ok)
	}
}
