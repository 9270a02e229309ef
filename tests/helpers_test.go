package tests

import (
	"fmt"
	"math"
	"reflect"
	"slices"
	"strings"
	"sync"
	"testing"
)

func same(t *testing.T, what string, got, want any) {
	t.Helper()
	if !reflect.DeepEqual(got, want) {
		t.Errorf("%s: got %s, want %s", what, shown(got), shown(want))
	}
}

// shown returns the beginning of the text of a value.
func shown(v any) string {
	s := fmt.Sprintf("%#v", v)
	return s[:min(len(s), 300)]
}

// filled returns a deep copy of a value with empty slices for nil ones, which are the same values.
func filled(v reflect.Value) reflect.Value {
	c := reflect.New(v.Type()).Elem()
	switch v.Kind() {
	case reflect.Slice:
		c.Set(reflect.MakeSlice(v.Type(), v.Len(), v.Len()))
		reflect.Copy(c, v)
		if kind := v.Type().Elem().Kind(); kind != reflect.Slice && kind != reflect.Struct {
			return c
		}
		for i := range v.Len() {
			c.Index(i).Set(filled(v.Index(i)))
		}
	case reflect.Struct:
		for i := range v.NumField() {
			c.Field(i).Set(filled(v.Field(i)))
		}
	default:
		c.Set(v)
	}
	return c
}

// results collects the results of one call, with empty slices for nil ones.
func results(values ...any) []any {
	for i, v := range values {
		values[i] = filled(reflect.ValueOf(v)).Interface()
	}
	return values
}

// fails requires that the last result is false and all others are zero values.
func fails(t *testing.T, what string, values ...any) {
	t.Helper()
	if values[len(values)-1] != false {
		t.Errorf("%s: succeeds, but must fail", what)
	}
	for i, v := range values[:len(values)-1] {
		zero := reflect.Zero(reflect.TypeOf(v)).Interface()
		if !reflect.DeepEqual(results(v), results(zero)) {
			t.Errorf("%s: result %d of a failure is %s", what, i, shown(v))
		}
	}
}

// withSpare returns a copy of a list whose unused capacity has numbers that no function writes.
func withSpare(list []int64) []int64 {
	spare := append(slices.Clone(list), 7777, 8888, 9999)
	return spare[:len(list)]
}

// hasSpare reports whether a list from withSpare is unchanged.
func hasSpare(list, before []int64) bool {
	return slices.Equal(list, before) && slices.Equal(list[:len(list)+3][len(list):], []int64{7777, 8888, 9999})
}

// wholeText shows a value with the unused capacity of all its slices.
func wholeText(v reflect.Value) string {
	var text strings.Builder
	switch v.Kind() {
	case reflect.Slice:
		whole := v.Slice(0, v.Cap())
		fmt.Fprint(&text, v.Len(), "[")
		for i := range whole.Len() {
			text.WriteString(wholeText(whole.Index(i)) + ",")
		}
		text.WriteString("]")
	case reflect.Struct:
		for i := range v.NumField() {
			text.WriteString(wholeText(v.Field(i)) + ";")
		}
	default:
		fmt.Fprint(&text, v.Interface())
	}
	return text.String()
}

// memoryOf returns where the memory of each slice in a value begins and ends, with its unused capacity.
func memoryOf(v reflect.Value) [][2]uintptr {
	var parts [][2]uintptr
	switch v.Kind() {
	case reflect.Slice:
		if v.Cap() > 0 {
			parts = append(parts, [2]uintptr{v.Pointer(), v.Pointer() + uintptr(v.Cap())*v.Type().Elem().Size()})
		}
		for i := range v.Len() {
			parts = append(parts, memoryOf(v.Index(i))...)
		}
	case reflect.Struct:
		for i := range v.NumField() {
			parts = append(parts, memoryOf(v.Field(i))...)
		}
	}
	return parts
}

// sharesMemory reports whether two slices in the results of a call share memory, or one of them and one in the arguments.
func sharesMemory(arguments any, call []any) bool {
	others := memoryOf(reflect.ValueOf(arguments))
	for _, result := range call {
		for _, part := range memoryOf(reflect.ValueOf(result)) {
			for _, other := range others {
				if part[0] < other[1] && other[0] < part[1] {
					return true
				}
			}
			others = append(others, part)
		}
	}
	return false
}

// sparedCopy returns a deep copy of arguments whose slices have unused capacity with numbers that no function writes.
func sparedCopy[A any](x A) A {
	return spared(reflect.ValueOf(x)).Interface().(A)
}

func spared(v reflect.Value) reflect.Value {
	c := reflect.New(v.Type()).Elem()
	switch v.Kind() {
	case reflect.Slice:
		whole := reflect.MakeSlice(v.Type(), v.Len()+2, v.Len()+2)
		for i := range v.Len() {
			whole.Index(i).Set(spared(v.Index(i)))
		}
		for i := v.Len(); i < whole.Len(); i++ {
			mark(whole.Index(i))
		}
		c.Set(whole.Slice(0, v.Len()))
	case reflect.Struct:
		for i := range v.NumField() {
			c.Field(i).Set(spared(v.Field(i)))
		}
	default:
		c.Set(v)
	}
	return c
}

// mark sets all numbers in a value of unused capacity.
func mark(v reflect.Value) {
	switch v.Kind() {
	case reflect.Int64:
		v.SetInt(7777)
	case reflect.Struct:
		for i := range v.NumField() {
			mark(v.Field(i))
		}
	}
}

func filledCalls(calls [][]any) [][]any {
	var all [][]any
	for _, call := range calls {
		all = append(all, results(slices.Clone(call)...))
	}
	return all
}

// callEvery calls functions with all arguments: failures have zero results, calls repeat themselves, no argument changes, and no result shares memory. Each function must succeed as often as least, or more.
func callEvery[A any](t *testing.T, list []A, callAll func(A) [][]any, least int) {
	t.Helper()
	succeeded := make([]int, len(callAll(list[0])))
	for _, x := range list {
		spare := sparedCopy(x)
		before := wholeText(reflect.ValueOf(spare))
		calls := callAll(spare)
		if wholeText(reflect.ValueOf(spare)) != before {
			t.Fatalf("an argument has changed: %s", before)
		}
		for i, call := range calls {
			if call[len(call)-1] == false {
				fails(t, "call", call...)
			} else {
				succeeded[i]++
			}
			if sharesMemory(spare, call) {
				t.Fatalf("result %s of call %d shares memory", shown(call), i)
			}
		}
		if again := filledCalls(callAll(x)); !reflect.DeepEqual(filledCalls(calls), again) {
			t.Fatalf("equal arguments, other results: %s and %s", shown(calls), shown(again))
		}
	}
	for i, count := range succeeded {
		if count < least {
			t.Errorf("function %d has succeeded only %d times", i, count)
		}
	}
}

// callsFail requires that calls fail.
func callsFail(t *testing.T, calls [][]any) {
	t.Helper()
	for i, call := range calls {
		if call[len(call)-1] != false {
			t.Errorf("call %d succeeds", i)
		}
	}
}

// callWithEmpty passes each empty list as nil and as an empty slice.
func callWithEmpty[A any](t *testing.T, list []A, callAll func(A) [][]any) {
	t.Helper()
	for _, x := range list {
		empty := filled(reflect.ValueOf(x)).Interface().(A)
		same(t, "nil and empty", filledCalls(callAll(x)), filledCalls(callAll(empty)))
	}
}

// callTogether calls functions at the same time with the same arguments, which they only read.
func callTogether[A any](t *testing.T, list []A, callAll func(A) [][]any) {
	t.Helper()
	got := make([][][]any, 8*len(list))
	var group sync.WaitGroup
	for i := range got {
		group.Go(func() { got[i] = filledCalls(callAll(list[i%len(list)])) })
	}
	group.Wait()
	for i, calls := range got {
		same(t, "calls", calls, got[i%len(list)])
	}
}

// overwrite changes all numbers in the slices of a value.
func overwrite(v reflect.Value) {
	switch v.Kind() {
	case reflect.Slice:
		for i := range v.Len() {
			overwrite(v.Index(i))
		}
	case reflect.Struct:
		for i := range v.NumField() {
			overwrite(v.Field(i))
		}
	case reflect.Int64:
		if v.CanSet() {
			v.SetInt(4444)
		}
	}
}

// callAndOverwrite writes into results: arguments and later results must not change.
func callAndOverwrite[A any](t *testing.T, list []A, callAll func(A) [][]any) {
	t.Helper()
	for _, x := range list {
		before := wholeText(reflect.ValueOf(x))
		calls := callAll(x)
		want := filledCalls(calls)
		for _, call := range calls {
			for _, result := range call {
				overwrite(reflect.ValueOf(result))
			}
		}
		if wholeText(reflect.ValueOf(x)) != before {
			t.Fatalf("an argument has changed: %s", before)
		}
		same(t, "calls", filledCalls(callAll(x)), want)
	}
}

func repeated(n int64, count int) []int64 {
	return slices.Repeat([]int64{n}, count)
}

// oddNumbers are arguments at and beyond limits.
func oddNumbers() []int64 {
	numbers := []int64{math.MinInt64, math.MinInt64 + 1, math.MaxInt64, math.MaxInt64 - 1}
	for _, limit := range []int64{0, 1, 10, 63, 64, 100, 127, 128, 8192, 40000, 65521, 1e9, 1e15, 2e15, 1 << 49, 1 << 56} {
		for _, n := range []int64{limit - 1, limit, limit + 1} {
			numbers = append(numbers, n, -n)
		}
	}
	return numbers
}

// oddStrings are arguments that are codes, texts or neither.
func oddStrings() []string {
	return []string{
		"", "a", "abcdefghij", "abcdefghijk", "A", "\x00", "\x80", "\x80\x00", "\x80\x01", "\xff\xff\xff\xff",
		"\x02\x00", "\x04\x00", "\x04a", "\x01", "-0", "0", "-1000000000", "1000000001", "0a", "0A", "0a1", "zz",
		"\n", "a\n", "a\n\nb\n", "a\nb", " ", "a  b", "\u00e4", "\U0001F600", "\xc3", strings.Repeat("\x80", 20),
		strings.Repeat("\x80", 50000), strings.Repeat("\xff", 9), strings.Repeat("a", 40000), strings.Repeat("a", 40001),
		strings.Repeat("0", 80000), strings.Repeat("0", 80002), strings.Repeat("\n", 40000), strings.Repeat("\n", 40001),
		strings.Repeat(" ", 100000), "9223372036854775808", strings.Repeat("9", 1000),
	}
}

func oddLists() [][]int64 {
	return [][]int64{
		nil, {}, {0}, {0, 0}, {1, -1}, {math.MinInt64}, {math.MaxInt64}, {1e15, -1e15}, {1e15 + 1}, {-1e15 - 1},
		{4, -6}, {5, 5, 5}, repeated(-12, 100), repeated(1, 101), repeated(0, 100000),
	}
}
