package tests

import (
	"slices"
	"testing"

	"loop.example/g01105/impl"
)

func TestEliminateSymbol(t *testing.T) {
	cases := []struct {
		list   string
		symbol int64
		want   string
	}{
		{"a-1;-a", 0, "-1;"}, {"", 0, ""}, {"", 9, ""}, {"a;b", 2, "a;b;"}, {"a;2a+b;b", 0, "b;"}, {"-a;-2a+b;b", 0, "b;"}, {"a;a", 0, ""}, {"0;-5", 3, "0;-5;"}, {"a;-a", 0, "0;"}, {"a+b+j;-a-j", 0, "b;"}, {"a+b-1;-a-b", 1, "-1;"},
		{"a+b;c;-a+1;a-b;d;-2a+c", 0, "c;d;b+1;2b+c;-b+1;-2b+c;"}, {"-a+1;a-b;-a+2;a-c", 0, "-b+1;-b+2;-c+1;-c+2;"}, {"j-1;a;i-j", 9, "a;i-1;"}, {"4a+b;-6a+c", 0, "3b+2c;"}, {"4a+b;-8a+c", 0, "2b+c;"}, {"3a+b;-a+c", 0, "b+3c;"},
		{"2a+2b+4;-2a+2c", 0, "2b+2c+4;"}, {"2b+4;a;-4a+8b", 0, "2b+4;8b;"}, {"a+500000b;-a+500000b", 0, "1000000b;"}, {"a-500000b;-a-500000b", 0, "-1000000b;"}, {"a+500000;-a+500000", 0, "1000000;"}, {"a-500000;-a-500000", 0, "-1000000;"},
		{"1000000a;-a", 0, "0;"}, {"1000000a;-999999a", 0, "0;"}, {"1000000a+1;-1000000a", 0, "1;"}, {"999999a;-1000000a-1", 0, "-999999;"},
	}
	for _, c := range cases {
		list, ok := impl.EliminateSymbol(listOf(c.list), c.symbol)
		same(t, c.list, results(termsText(list, ";"), ok), results(c.want, true))
	}
	seven := append(factsOf(alone(4, 1), 7), factsOf(alone(4, -1), 7)...)
	list, ok := impl.EliminateSymbol(seven, 4)
	same(t, "7 and 7", results(list, ok), results(factsOf(fact(0), 49), true))
}

func TestNoElimination(t *testing.T) {
	for _, symbol := range append([]int64{10, -1, 11}, oddNumbers()...) {
		if symbol >= 0 && symbol <= 9 {
			continue
		}
		for _, text := range []string{"", "a-1;-a", "j"} {
			list, ok := impl.EliminateSymbol(listOf(text), symbol)
			fails(t, text, list, ok)
		}
	}
	for _, text := range []string{"a+500000b;-a+500001b", "a-500001b;-a-500000b", "a+500000;-a+500001", "a-500000;-a-500001", "b;a+500000c;-a+500001c;c", "a+1;-1000000a+1", "1000a+b;-999a+1000000"} {
		list, ok := impl.EliminateSymbol(listOf(text), 0)
		fails(t, text, list, ok)
	}
	for _, bad := range badLists() {
		for symbol := range int64(10) {
			list, ok := impl.EliminateSymbol(bad, symbol)
			fails(t, shown(bad), list, ok)
		}
	}
}

func TestRefuteFacts(t *testing.T) {
	cases := []struct {
		list string
		want []int64
	}{
		{"a-1;-a", []int64{1, 1}}, {"-1", []int64{1}}, {"0;-1", []int64{0, 1}}, {"1;-1;-2", []int64{0, 1, 0}}, {"-2;1;-1", []int64{1, 0, 0}}, {"a-1;-a;-5", []int64{0, 0, 1}}, {"-1000000;a", []int64{1, 0}}, {"j-1;-j", []int64{1, 1}},
		{"-a-1;a;-a-2;a-1", []int64{1, 1, 0, 0}}, {"-a+5;a;-a-2;a-1", []int64{0, 1, 1, 0}}, {"-a+5;a;-a+2;a-6", []int64{1, 0, 0, 1}}, {"a;-a;a-1;-a-1", []int64{1, 0, 0, 1}}, {"-3a+1;2a-1", []int64{2, 3}}, {"4a-1;-6a+1", []int64{3, 2}},
		{"a-b;b-c;-a+c-1", []int64{1, 1, 1}}, {"a-b;b-c;c-d;d-e;e-f;f-g;g-h;h-i;i-j;-a+j-1", repeated(1, 10)}, {"-a+b;-b+c;-c-1;a", []int64{1, 1, 1, 1}}, {"2a+b;-a-b-1;b-2;-b", []int64{0, 0, 1, 1}}, {"2a+b;-a-b-1;b", []int64{1, 2, 1}},
		{"2a;-a+b;-a-b-1", []int64{1, 1, 1}}, {"2a;-a+b-1;-a-b", []int64{1, 1, 1}}, {"a+b-3;-a+b-3;-b", []int64{1, 1, 2}}, {"a+2b-2;-a+2b-4;-b", []int64{1, 1, 4}}, {"2a-2;-2a", []int64{1, 1}}, {"4a+b;-6a+c;-b-1;-c", []int64{3, 2, 3, 2}},
		{"2a-1;-2a+1;b-1;-b", []int64{0, 0, 1, 1}}, {"2a+b;-a;-a-500000b-1", []int64{500000, 999999, 1}},
	}
	for _, c := range cases {
		refutes(t, listOf(c.list), c.want...)
	}
	for _, text := range []string{"", "0", "1", "a", "a;-a", "a-1;-a+1", "2a-1;-2a+1", "a-1;b", "-a-1;-a", "1000000", "a-b;b-c;-a+c", "j"} {
		isNotRefuted(t, listOf(text))
	}
	for _, bad := range badLists() {
		isNotRefuted(t, bad)
		hasNoCut(t, bad)
	}
	refutes(t, append(factsOf(fact(0), 13), fact(-1)), append(make([]int64, 13), 1)...)
	isNotRefuted(t, append(factsOf(fact(0), 14), fact(-1)))
	same(t, "no facts", impl.IsRefuted(nil, nil), false)
}

// TestLimitsOfRows reaches MaxRows and passes it by one, in the middle and at the end of an elimination.
func TestLimitsOfRows(t *testing.T) {
	same(t, "rows", [][]int{stagesOf(listOf(rows59), 0, 1).counts, stagesOf(listOf(rows60), 0, 1).counts, stagesOf(listOf(rows61), 0, 1).counts}, [][]int{{24, 59}, {25, 60}, {18, 61}})
	for _, symbols := range [][]int{{0, 1}, {8, 9}, {3, 6}} {
		for _, text := range []string{rows59, rows60} {
			list := spread(listOf(text), symbols...)
			isNotRefuted(t, list)
			refuted := append(list, fact(-1))
			if text == rows59 {
				refutes(t, refuted, append(make([]int64, len(list)), 1)...)
			} else {
				isNotRefuted(t, refuted)
			}
		}
		list := append(spread(listOf(rows61), symbols...), fact(-1))
		isNotRefuted(t, list)
		isNotRefuted(t, list[:len(list)-1])
	}
	// The third stage has few rows, as all new ones of the first stage have a positive coefficient.
	for text, few := range map[string]bool{rows59: true, rows60: false} {
		list := listOf(text)
		for i, x := range list {
			list[i], _ = impl.AddTerms(x, alone(2, 1))
		}
		list = append(list, fact(-1))
		same(t, "rows", stagesOf(list[:len(list)-1], 2).counts, []int{0})
		if few {
			refutes(t, list, append(make([]int64, len(list)-1), 1)...)
		} else {
			isNotRefuted(t, list)
		}
	}
}

// TestCutsWithinLimits has cuts in eliminations that fail later, and in those that come to their end.
func TestCutsWithinLimits(t *testing.T) {
	pair := listOf("a+b;-a+b-1")
	list := append(spread(listOf(rows60), 8, 9), pair...)
	cutsBy(t, list, "b-1", append(make([]int64, 10), 1, 1)...)
	hasNoCut(t, append(list, fact(0)))
	list = append(pair, spread(listOf(rows61), 2, 3)...)
	hasNoCut(t, list)
	cutsBy(t, listOf("a+b;-a+b-1;c+500000d;-c+500000d"), "b-1", 1, 1, 0, 0)
	hasNoCut(t, listOf("a+b;-a+b-1;c+500000d;-c+500001d"))
	cutsBy(t, listOf("a+b;-a+b-1;i+500000j;-i+500000j"), "b-1", 1, 1, 0, 0)
	hasNoCut(t, listOf("a+b;-a+b-1;i+500000j;-i+500001j"))
}

// TestLimitsOfNumbers reaches MaxCoeff and passes it by one, in Const, the Coeffs and the multipliers of new rows.
func TestLimitsOfNumbers(t *testing.T) {
	cases := []struct {
		list string
		want []int64
	}{
		{"a;-1000a+b;-1000b-1", []int64{1000000, 1000, 1}}, {"a;-1000a+b;-1001b-1", nil}, {"h;-1000h+j;-1000j-1", []int64{1000000, 1000, 1}}, {"h;-1000h+j;-1001j-1", nil},
		{"2a+b;-a;-a-500000b-1", []int64{500000, 999999, 1}}, {"2a+b;-a;-a-500001b-1", nil},
		{"2a-100000;-a+b-200000;-a-3b-200000", []int64{2, 3, 1}}, {"2a-100000;-a+b-200000;-a-3b-200001", nil},
		{"2a+100000c;-a+b+200000c;-a-3b+200000c;-c-1", []int64{2, 3, 1, 1000000}}, {"2a+100000c;-a+b+200000c;-a-3b+200001c;-c-1", nil},
		{"2a-100000c;-a+b-200000c;-a-3b-200000c;c-1", []int64{2, 3, 1, 1000000}}, {"2a-100000c;-a+b-200000c;-a-3b-200001c;c-1", nil},
		{"a-500000;-a-500000", []int64{1, 1}}, {"a-500000;-a-500001", nil}, {"a+1000b;-a+1000b;-2000b-1", []int64{1, 1, 1}}, {"1000a-1;-999a", []int64{999, 1000}}, {"1000000a-1;-999999a", []int64{999999, 1000000}},
		{"a-1000000;-a+999999", []int64{1, 1}}, {"-1;a+1000000;-a", []int64{1, 0, 0}}, {"-1;a+1000000;-a+1", nil}, {"-1;a-1000000;-a-1", nil}, {"-1;a+1000000b;-a+b", nil}, {"-1;a-1000000b;-a-b", nil}, {"-1;i+1000000j;-i+j", nil}, {"-1;j+1000000;-j+1", nil},
	}
	for _, c := range cases {
		if c.want != nil {
			refutes(t, listOf(c.list), c.want...)
		} else {
			isNotRefuted(t, listOf(c.list))
		}
	}
}

func TestIsRefuted(t *testing.T) {
	cases := []struct {
		list        string
		multipliers []int64
		is          bool
	}{
		{"a-1;-a", []int64{1, 1}, true}, {"a-1;-a", []int64{2, 2}, true}, {"a-1;-a", []int64{1, 0}, false}, {"a-1;-a", []int64{0, 0}, false}, {"a-1;-a", []int64{1, 2}, false}, {"a-1;-a", []int64{1}, false}, {"a-1;-a", []int64{1, 1, 0}, false},
		{"a-1;-a", nil, false}, {"a-1;-a", []int64{-1, -1}, false}, {"a-1;-a", []int64{1000000, 1000000}, true}, {"a-1;-a", []int64{1000001, 1000001}, false}, {"a;-a", []int64{1, 1}, false}, {"a+1;-a-2", []int64{1, 1}, true},
		{"", nil, false}, {"", []int64{1}, false}, {"0", []int64{1}, false}, {"-1", []int64{0}, false}, {"-1", []int64{1}, true}, {"-1", []int64{1000000}, true}, {"-1", []int64{1000001}, false}, {"-1", []int64{-1}, false}, {"-2", []int64{500000}, true}, {"-2", []int64{500001}, false},
		{"1;-2", []int64{0, 3}, true}, {"1;-2", []int64{3, 1}, false}, {"1;-2", []int64{2, 1}, false}, {"1;-2", []int64{1, 1}, true}, {"1;-2", []int64{-1, 1}, false}, {"a-1;-a+j", []int64{1, 1}, false}, {"a-1;-a+j;-j", []int64{1, 1, 1}, true}, {"2a-1;-2a+1;-1", []int64{5, 5, 1}, true},
		{"-1000000;1000000", []int64{1000000, 999999}, true}, {"-1000000;1000000", []int64{1000000, 999998}, false}, {"-1000000a-1;1000000a", []int64{1000000, 1000000}, true},
	}
	for _, c := range cases {
		same(t, c.list, impl.IsRefuted(listOf(c.list), c.multipliers), c.is)
	}
	for _, bad := range badLists() {
		for _, n := range []int64{0, 1} {
			same(t, shown(bad), impl.IsRefuted(bad, repeated(n, len(bad))), false)
			same(t, shown(bad), impl.IsRefuted(append(slices.Clone(bad), fact(-1)), append(make([]int64, len(bad)), 1)), false)
		}
	}
	for _, n := range oddNumbers() {
		same(t, "multiplier", impl.IsRefuted([]impl.Term{fact(-1)}, []int64{n}), n >= 1 && n <= 1000000)
	}
	same(t, "14 facts", impl.IsRefuted(factsOf(fact(-1), 14), repeated(1, 14)), true)
	same(t, "15 facts", impl.IsRefuted(factsOf(fact(-1), 15), repeated(1, 15)), false)
}

func TestFirstCut(t *testing.T) {
	cases := []struct {
		list, term string
		want       []int64
	}{
		{"a+b;-a+b-1", "b-1", []int64{1, 1}}, {"i+j;-i+j-1", "j-1", []int64{1, 1}}, {"a+b;-a+2b-1", "b-1", []int64{1, 1}}, {"a+b;-a+b-2", "", nil}, {"a+b;-a+b", "", nil}, {"a+b;-a+b+1", "b", []int64{1, 1}}, {"a-b;-a-b+3", "-b+1", []int64{1, 1}},
		{"a+2b;-a+b-1", "b-1", []int64{1, 1}}, {"a+b;-a+b-1;b-1", "", nil}, {"a+b;-a+b-1;b-2", "b-1", []int64{1, 1, 0}}, {"2a-1", "", nil}, {"2a-1;-2a+1", "", nil}, {"", "", nil}, {"-1", "", nil}, {"2a-1;b+c;-b+c-1", "c-1", []int64{0, 1, 1}},
		{"a+b;-a+b-1;-a+b-3", "b-1", []int64{1, 1, 0}}, {"a+b;-a+b-3;-a+b-1", "b-2", []int64{1, 1, 0}}, {"a+b;a+b-1;-a+b-3", "b-2", []int64{1, 0, 1}}, {"b-1;a+b;a+b-2;-a+b-1", "b-2", []int64{0, 0, 1, 1}}, {"b+c;-b+c-1;a+c;-a+c-5", "c-3", []int64{0, 0, 1, 1}},
		{"2a+b;-a+c-1;-b+c", "c-1", []int64{1, 2, 1}}, {"2a;-a+b;-a-b+2c-1", "c-1", []int64{1, 1, 1}}, {"a+c;b-c;-a-b-2c+j;-j-1", "", nil}, {"a+b;b+c;-a-b+3c-1;c", "c-1", []int64{1, 0, 1, 0}}, {"a+b+c;-a-b+c-1", "c-1", []int64{1, 1}}, {"2a+4b;-a+b-1", "b-1", []int64{1, 2}},
		{"a+b;-a-b+2c+2d-1;c", "c+d-1", []int64{1, 1, 0}}, {"a+b;-a+2b;-b+3c-1", "c-1", []int64{1, 1, 3}}, {"a+b-1;-a+2b;-b+3c-1", "b-1", []int64{1, 1, 0}}, {"a+b;-a+c;-b+c-1", "c-1", []int64{1, 1, 1}},
	}
	for _, c := range cases {
		if c.term == "" {
			hasNoCut(t, listOf(c.list))
		} else {
			cutsBy(t, listOf(c.list), c.term, c.want...)
		}
	}
}

func TestLeastOf(t *testing.T) {
	cases := []struct {
		list, goal string
		want       int64
	}{
		{"2a-3", "a", 2}, {"2a+3", "a", -1}, {"2a-4", "a", 2}, {"2a+4", "a", -2}, {"a-3;a-5;a-4", "a", 5}, {"a+3;a+5;a+4", "a", -3}, {"", "5", 5}, {"", "-5", -5}, {"", "0", 0}, {"a", "1000000", 1000000}, {"a", "-1000000", -1000000}, {"-a+7", "-a", -7},
		{"3a-1", "2a", 1}, {"3a+1", "2a", 0}, {"3a+2", "2a", -1}, {"3a-2", "2a", 2}, {"a-1;b-2", "a+b+3", 6}, {"a-1;b-2;-b+9", "a-b", -8}, {"a;b-1;-b+c", "a+c", 1}, {"a;b;-b", "a", 0}, {"a;b;-b+1", "a-2", -2}, {"i-4", "2i", 8}, {"i+4", "3i", -12},
		{"2i-1", "i", 1}, {"2i+1", "i", 0}, {"a+b;-a+b-1", "b", 1}, {"a+b;-a+b+1", "b", 0}, {"1000000a-1", "a", 1}, {"1000000a+1", "a", 0}, {"1000000a+1000000", "a", -1}, {"0;1", "3", 3}, {"a-2;-a+1000000", "a", 2},
	}
	for _, c := range cases {
		isLeast(t, c.list, c.goal, c.want)
	}
	for _, c := range [][2]string{
		{"", "a"}, {"a", "-a"}, {"b", "a"}, {"a", "a+b"}, {"a;b-1;-b", "a"}, {"a;-1", "a"}, {"-1", "5"}, {"", "j"}, {"", "a+j"}, {"j", "5"}, {"a;a-j", "a"}, {"a-1;-a", "a"}, {"a-1;-a", "7"}, {"a+500001b;b", "1000000a"}, {"2a-b;3b-c;c-1000000", "1000000a"},
	} {
		hasNoLeast(t, listOf(c[0]), termOf(c[1]))
	}
	thirteen := append(factsOf(fact(0), 12), fact(-6, 1))
	least, ok := impl.LeastOf(thirteen, alone(0, 1))
	same(t, "13 facts", results(least, ok), results(int64(6), true))
	hasNoLeast(t, append(thirteen, fact(0)), alone(0, 1))
	hasNoLeast(t, append(thirteen, fact(0), fact(0)), alone(0, 1))
	for _, bad := range badLists() {
		hasNoLeast(t, bad, fact(0))
	}
	for _, bad := range badTerms() {
		hasNoLeast(t, nil, bad)
		hasNoLeast(t, listOf("a;b"), bad)
	}
}

// TestLeastWithinLimits reaches MaxRows with the added fact, and passes it by one.
func TestLeastWithinLimits(t *testing.T) {
	list := spread(listOf(rows59), 7, 8)
	least, ok := impl.LeastOf(list, fact(3))
	same(t, "60 rows", results(least, ok), results(int64(3), true))
	hasNoLeast(t, spread(listOf(rows60), 7, 8), fact(3))
	hasNoLeast(t, spread(listOf(rows61), 7, 8), fact(3))
	isLeast(t, "a+500000", "2a", -1000000)
	hasNoLeast(t, listOf("a+500001"), termOf("2a"))
	isLeast(t, "1000a-b;b+1", "1000a", -1)
	isLeast(t, "1000a-b;1000b-c;c-3", "a", 1)
	hasNoLeast(t, listOf("1000a-b;1001b-c;c-3"), termOf("a"))
}
