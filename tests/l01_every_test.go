package tests

import (
	"bytes"
	"reflect"
	"slices"
	"sync"
	"testing"
	"unsafe"

	"loop.example/g01105/impl"
)

// allOfChapter1 returns what every function of chapter 1 returns for arguments.
func allOfChapter1(s string, list []int64, a, b int64) [][]any {
	var all [][]any
	add := func(values ...any) { all = append(all, results(values...)) }
	add(impl.IsName(s))
	add(impl.Decimal(a))
	n, ok := impl.ReadDecimal(s)
	add(n, ok)
	n, ok = impl.DivFloor(a, b)
	add(n, ok)
	n, ok = impl.GcdOf(list)
	add(n, ok)
	text, ok := impl.PutNumber(a)
	add(text, ok)
	n, end, ok := impl.GetNumber(s, a)
	add(n, end, ok)
	text, ok = impl.PutList(list)
	add(text, ok)
	numbers, end, ok := impl.GetList(s, a)
	add(numbers, end, ok)
	text, ok = impl.PutText(s)
	add(text, ok)
	text, end, ok = impl.GetText(s, a)
	add(text, end, ok)
	add(impl.CheckOf(s))
	text, ok = impl.HexOf(s)
	add(text, ok)
	text, ok = impl.ReadHex(s)
	add(text, ok)
	lines, ok := impl.LinesOf(s)
	add(lines, ok)
	add(impl.WordsOf(s))
	return all
}

// hasSuccess reports whether the last result of a call is a bool that tells success.
func hasSuccess(call []any) bool {
	_, ok := call[len(call)-1].(bool)
	return ok && len(call) > 1
}

// TestEveryFunctionReturns calls each function with all odd arguments: failures have zero results, calls repeat themselves, and no argument changes.
func TestEveryFunctionReturns(t *testing.T) {
	numbers, lists := oddNumbers(), oddLists()
	for i, s := range oddStrings() {
		for j, n := range numbers {
			before := lists[(i+j)%len(lists)]
			list := withSpare(before)
			other := numbers[(7*j+i)%len(numbers)]
			calls := allOfChapter1(s, list, n, other)
			if !hasSpare(list, before) {
				t.Fatalf("an argument has changed: %v", list)
			}
			for _, call := range calls {
				if hasSuccess(call) && call[len(call)-1] == false {
					fails(t, "call", call...)
				}
			}
			if again := allOfChapter1(s, slices.Clone(before), n, other); !reflect.DeepEqual(calls, again) {
				t.Fatalf("equal arguments, other results: %s and %s", shown(calls), shown(again))
			}
		}
	}
}

func TestNilAndEmptyListsAreTheSame(t *testing.T) {
	same(t, "nil", allOfChapter1("", nil, 0, 0), allOfChapter1("", []int64{}, 0, 0))
}

// TestCallsDoNotDisturbEachOther calls the functions at the same time as others with other arguments.
func TestCallsDoNotDisturbEachOther(t *testing.T) {
	texts := []string{"\x04\x02\x01", "a b\n", "6162", "\x80\x01x", "-12", "\x04ab"}
	got := make([][][]any, 8*len(texts))
	var group sync.WaitGroup
	for i := range got {
		group.Go(func() {
			got[i] = allOfChapter1(texts[i%len(texts)], []int64{int64(i % len(texts)), -6}, 0, 7)
		})
	}
	group.Wait()
	for i, calls := range got {
		same(t, "calls", calls, got[i%len(texts)])
	}
}

// within reports whether a part lies in the memory of a string.
func within(part, s string) bool {
	first, start := uintptr(unsafe.Pointer(unsafe.StringData(part))), uintptr(unsafe.Pointer(unsafe.StringData(s)))
	return len(part) > 0 && first >= start && first < start+uintptr(len(s))
}

// TestTextsAreNotKept changes the memory of arguments after the calls; the results must stay.
func TestTextsAreNotKept(t *testing.T) {
	memory := []byte("\x0cab cd\n")
	s := unsafe.String(&memory[0], len(memory))
	before := bytes.Clone(memory)
	text, _, a := impl.GetText(s, 0)
	words := impl.WordsOf(s)
	lines, b := impl.LinesOf(s)
	same(t, "arguments", memory, before)
	same(t, "success", []bool{a, b}, []bool{true, true})
	for _, part := range slices.Concat(words, lines, []string{text}) {
		if within(part, s) {
			t.Errorf("%q shares memory with an argument", part)
		}
	}
	for i := range memory {
		memory[i] = 'z'
	}
	same(t, "text", text, "ab cd\n")
	same(t, "words", words, []string{"\x0cab", "cd\n"})
	same(t, "lines", lines, []string{"\x0cab cd"})
}
