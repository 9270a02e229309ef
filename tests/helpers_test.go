package tests

import (
	"fmt"
	"math"
	"reflect"
	"slices"
	"strings"
	"testing"
)

func same(t *testing.T, what string, got, want any) {
	t.Helper()
	if !reflect.DeepEqual(got, want) {
		t.Errorf("%s: got %s, want %s", what, shown(got), shown(want))
	}
}

// shown returns the beginning of the text of a value.
func shown(v any) string {
	s := fmt.Sprintf("%#v", v)
	return s[:min(len(s), 300)]
}

// results collects the results of one call, with empty slices for nil ones.
func results(values ...any) []any {
	for i, v := range values {
		r := reflect.ValueOf(v)
		if r.Kind() == reflect.Slice && r.IsNil() {
			values[i] = reflect.MakeSlice(r.Type(), 0, 0).Interface()
		}
	}
	return values
}

// fails requires that the last result is false and all others are zero values.
func fails(t *testing.T, what string, values ...any) {
	t.Helper()
	if values[len(values)-1] != false {
		t.Errorf("%s: succeeds, but must fail", what)
	}
	for i, v := range values[:len(values)-1] {
		r := reflect.ValueOf(v)
		if !r.IsZero() && !(r.Kind() == reflect.Slice && r.Len() == 0) {
			t.Errorf("%s: result %d of a failure is %s", what, i, shown(v))
		}
	}
}

// withSpare returns a copy of a list whose unused capacity has numbers that no function writes.
func withSpare(list []int64) []int64 {
	spare := append(slices.Clone(list), 7777, 8888, 9999)
	return spare[:len(list)]
}

// hasSpare reports whether a list from withSpare is unchanged.
func hasSpare(list, before []int64) bool {
	return slices.Equal(list, before) && slices.Equal(list[:len(list)+3][len(list):], []int64{7777, 8888, 9999})
}

func repeated(n int64, count int) []int64 {
	return slices.Repeat([]int64{n}, count)
}

// oddNumbers are arguments at and beyond limits.
func oddNumbers() []int64 {
	numbers := []int64{math.MinInt64, math.MinInt64 + 1, math.MaxInt64, math.MaxInt64 - 1}
	for _, limit := range []int64{0, 1, 10, 63, 64, 100, 127, 128, 8192, 40000, 65521, 1e9, 1e15, 2e15, 1 << 49, 1 << 56} {
		for _, n := range []int64{limit - 1, limit, limit + 1} {
			numbers = append(numbers, n, -n)
		}
	}
	return numbers
}

// oddStrings are arguments that are codes, texts or neither.
func oddStrings() []string {
	return []string{
		"", "a", "abcdefghij", "abcdefghijk", "A", "\x00", "\x80", "\x80\x00", "\x80\x01", "\xff\xff\xff\xff",
		"\x02\x00", "\x04\x00", "\x04a", "\x01", "-0", "0", "-1000000000", "1000000001", "0a", "0A", "0a1", "zz",
		"\n", "a\n", "a\n\nb\n", "a\nb", " ", "a  b", "\u00e4", "\U0001F600", "\xc3", strings.Repeat("\x80", 20),
		strings.Repeat("\x80", 50000), strings.Repeat("\xff", 9), strings.Repeat("a", 40000), strings.Repeat("a", 40001),
		strings.Repeat("0", 80000), strings.Repeat("0", 80002), strings.Repeat("\n", 40000), strings.Repeat("\n", 40001),
		strings.Repeat(" ", 100000), "9223372036854775808", strings.Repeat("9", 1000),
	}
}

func oddLists() [][]int64 {
	return [][]int64{
		nil, {}, {0}, {0, 0}, {1, -1}, {math.MinInt64}, {math.MaxInt64}, {1e15, -1e15}, {1e15 + 1}, {-1e15 - 1},
		{4, -6}, {5, 5, 5}, repeated(-12, 100), repeated(1, 101), repeated(0, 100000),
	}
}
