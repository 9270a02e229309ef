package tests

import (
	"encoding/binary"
	"math"
	"slices"
	"strings"
	"testing"

	"loop.example/g01105/impl"
)

// codeOf writes a number as the library does, also one that PutNumber refuses.
func codeOf(numbers ...int64) string {
	var code []byte
	for _, n := range numbers {
		code = binary.AppendVarint(code, n)
	}
	return string(code)
}

// codedNumbers are numbers at which codes grow, and the limits.
func codedNumbers() []int64 {
	numbers := []int64{0, 2, -2, 3, -3, 100, 1e9, -1e9, 999999999999999, -999999999999999, 1e15, -1e15}
	for power := int64(1); power < 1e15; power *= 2 {
		numbers = append(numbers, power, -power, power-1, 1-power, power+1, -power-1)
	}
	return numbers
}

func TestPutNumber(t *testing.T) {
	codes := map[int64]string{
		0: "\x00", -1: "\x01", 1: "\x02", -3: "\x05", 63: "\x7e", -64: "\x7f", 64: "\x80\x01", -65: "\x81\x01", 128: "\x80\x02",
		8191: "\xfe\x7f", -8192: "\xff\x7f", 8192: "\x80\x80\x01",
		1e15: "\x80\x80\xb4\xcc\xd4\xdf\xc6\x03", -1e15: "\xff\xff\xb3\xcc\xd4\xdf\xc6\x03",
	}
	for n, code := range codes {
		got, ok := impl.PutNumber(n)
		same(t, "PutNumber "+impl.Decimal(n), results(got, ok), results(code, true))
	}
	for _, n := range codedNumbers() {
		got, ok := impl.PutNumber(n)
		same(t, "PutNumber "+impl.Decimal(n), results(got, ok), results(codeOf(n), true))
	}
	for _, n := range []int64{1e15 + 1, -1e15 - 1, 2e15, math.MaxInt64, math.MinInt64, math.MinInt64 + 1} {
		got, ok := impl.PutNumber(n)
		fails(t, "PutNumber "+impl.Decimal(n), got, ok)
	}
}

func TestNumbersAreReadBack(t *testing.T) {
	for _, n := range codedNumbers() {
		code, _ := impl.PutNumber(n)
		for _, before := range []string{"", "a", "\x80", "\xff\xff\xff"} {
			for _, behind := range []string{"", "\x00", "\x80", "\x01\x01"} {
				got, end, ok := impl.GetNumber(before+code+behind, int64(len(before)))
				same(t, impl.Decimal(n), results(got, end, ok), results(n, int64(len(before+code)), true))
			}
		}
		for k := range len(code) {
			got, end, ok := impl.GetNumber(code[:k], 0)
			fails(t, "early end", got, end, ok)
		}
	}
}

// TestShortCodes holds all strings of up to two bytes against the codes of all numbers that have so short ones.
func TestShortCodes(t *testing.T) {
	numbers := map[string]int64{}
	for n := int64(-8192); n < 8192; n++ {
		code, _ := impl.PutNumber(n)
		numbers[code] = n
	}
	same(t, "codes", len(numbers), 16384)
	check := func(s string) {
		n, end, ok := impl.GetNumber(s, 0)
		for k := 1; k <= len(s); k++ {
			if want, coded := numbers[s[:k]]; coded {
				same(t, "code", results(n, end, ok), results(want, int64(k), true))
				return
			}
		}
		fails(t, "no code", n, end, ok)
	}
	for a := range 256 {
		check(string([]byte{byte(a)}))
		for b := range 256 {
			check(string([]byte{byte(a), byte(b)}))
		}
	}
}

func TestGetNumberFails(t *testing.T) {
	cases := []struct {
		s  string
		at int64
	}{
		{"", 0}, {"a", 1}, {"a", 2}, {"a", -1}, {"ab", 3}, {"", 1}, {"", -1}, {"ab", math.MaxInt64}, {"ab", math.MinInt64},
		{"\x80", 0}, {"\xff\xff", 0}, {"a\x80", 1}, {"\x80\x00", 0}, {"\xff\x00", 0}, {"\x80\x80\x00", 0}, {"\x81\x80\x00\x01", 0},
		{"\x80\x80\x80\x80\x80\x80\x80\x00", 0}, {"\x82\x80\x80\x80\x80\x80\x80\x80\x00", 0}, {strings.Repeat("\x80", 8) + "\x01", 0},
		{strings.Repeat("\x80", 9) + "\x01", 0}, {strings.Repeat("\x80", 70) + "\x01", 0}, {strings.Repeat("\xff", 7) + "\x7f", 0},
		{strings.Repeat("\xff", 8), 0}, {strings.Repeat("\x80", 1000), 0}, {strings.Repeat("\xff", 9) + "\x01", 0},
		{codeOf(1e15 + 1), 0}, {codeOf(-1e15 - 1), 0}, {codeOf(2e15), 0}, {codeOf(math.MaxInt64), 0}, {codeOf(math.MinInt64), 0},
	}
	for _, c := range cases {
		n, end, ok := impl.GetNumber(c.s, c.at)
		fails(t, "GetNumber", n, end, ok)
	}
	n, end, ok := impl.GetNumber("\x80\x01x", 0)
	same(t, "GetNumber", results(n, end, ok), results(int64(64), int64(2), true))
	n, end, ok = impl.GetNumber("\x80\x01x", 1)
	same(t, "GetNumber", results(n, end, ok), results(int64(-1), int64(2), true))
}

func codedLists() [][]int64 {
	return [][]int64{{}, {0}, {1, -1}, {64, -65, 64}, {1e15, -1e15}, codedNumbers()[:100], repeated(1e15, 100), repeated(0, 99), repeated(-7, 63), repeated(5, 64)}
}

func TestPutList(t *testing.T) {
	code, ok := impl.PutList([]int64{1, -1})
	same(t, "PutList", results(code, ok), results("\x04\x02\x01", true))
	code, ok = impl.PutList(nil)
	same(t, "PutList", results(code, ok), results("\x00", true))
	for _, list := range codedLists() {
		code, ok := impl.PutList(list)
		same(t, "PutList", results(code, ok), results(codeOf(int64(len(list)))+codeOf(list...), true))
	}
	for _, list := range [][]int64{repeated(0, 101), {1e15 + 1}, {-1e15 - 1}, {1, 2, math.MinInt64}, {math.MaxInt64, 1}} {
		code, ok := impl.PutList(list)
		fails(t, "PutList", code, ok)
	}
}

func TestListsAreReadBack(t *testing.T) {
	for _, list := range codedLists() {
		code, _ := impl.PutList(list)
		for _, before := range []string{"", "x", "\x80\x80"} {
			for _, behind := range []string{"", "\x00", "\x80"} {
				got, end, ok := impl.GetList(before+code+behind, int64(len(before)))
				same(t, "GetList", results(got, end, ok), results(list, int64(len(before+code)), true))
			}
		}
		for k := range len(code) {
			got, end, ok := impl.GetList(code[:k], 0)
			fails(t, "early end", got, end, ok)
		}
	}
}

func TestGetListFails(t *testing.T) {
	cases := []struct {
		s  string
		at int64
	}{
		{"", 0}, {"\x00", 1}, {"\x00", 2}, {"\x00", -1}, {"\x00", math.MaxInt64}, {"\x00", math.MinInt64},
		{"\x04\x00", 0}, {"\x02", 0}, {"\x02\x80", 0}, {"\x02\x80\x00", 0}, {"\x04\x00\x80\x00", 0}, {"\x04\x80\x00\x00", 0}, {"\x82\x00\x00", 0},
		{codeOf(-1), 0}, {codeOf(-1, 0), 0}, {codeOf(-100) + strings.Repeat("\x00", 200), 0}, {codeOf(101) + strings.Repeat("\x00", 101), 0},
		{codeOf(1e15) + strings.Repeat("\x00", 200), 0}, {codeOf(math.MaxInt64), 0}, {codeOf(math.MinInt64) + "\x00", 0},
		{codeOf(1, 1e15+1), 0}, {codeOf(1, -1e15-1), 0}, {codeOf(2, 1e15+1, 0), 0},
	}
	for _, c := range cases {
		list, end, ok := impl.GetList(c.s, c.at)
		fails(t, "GetList", list, end, ok)
	}
	list, end, ok := impl.GetList("\x00", 0)
	same(t, "empty list", results(list, end, ok), results([]int64{}, int64(1), true))
}

func codedTexts() []string {
	return []string{"", "a", "ab", "\x00", "\x80", "\xff\xfe", "\u00e4\n", strings.Repeat("b", 63), strings.Repeat("b", 64), strings.Repeat("b", 8192), strings.Repeat("\x80", 39999), strings.Repeat("c", 40000)}
}

func TestPutText(t *testing.T) {
	code, ok := impl.PutText("ab")
	same(t, "PutText", results(code, ok), results("\x04ab", true))
	code, ok = impl.PutText("")
	same(t, "PutText", results(code, ok), results("\x00", true))
	for _, text := range codedTexts() {
		code, ok := impl.PutText(text)
		same(t, "PutText", results(code, ok), results(codeOf(int64(len(text)))+text, true))
	}
	for _, size := range []int{40001, 80000} {
		code, ok := impl.PutText(strings.Repeat("c", size))
		fails(t, "PutText", code, ok)
	}
}

func TestTextsAreReadBack(t *testing.T) {
	for _, text := range codedTexts() {
		code, _ := impl.PutText(text)
		for _, before := range []string{"", "x", "\x80\x80"} {
			for _, behind := range []string{"", "\x00", "abc"} {
				got, end, ok := impl.GetText(before+code+behind, int64(len(before)))
				same(t, "GetText", results(got, end, ok), results(text, int64(len(before+code)), true))
			}
		}
		for _, k := range []int{0, 1, 2, len(code) / 2, len(code) - 1} {
			if k < len(code) {
				got, end, ok := impl.GetText(code[:k], 0)
				fails(t, "early end", got, end, ok)
			}
		}
	}
}

func TestGetTextFails(t *testing.T) {
	long := strings.Repeat("c", 50000)
	cases := []struct {
		s  string
		at int64
	}{
		{"", 0}, {"\x00", 1}, {"\x00", 2}, {"\x00", -1}, {"\x00", math.MaxInt64}, {"\x00", math.MinInt64},
		{"\x04a", 0}, {"\x02", 0}, {"x\x04a", 1}, {"\x80", 0}, {"\x80\x00", 0}, {"\x84\x00ab", 0}, {codeOf(-1) + "a", 0}, {codeOf(-2) + "ab", 0},
		{codeOf(40001) + long, 0}, {codeOf(40000) + long[:39999], 0}, {codeOf(50000) + long, 0},
		{codeOf(1e15) + "a", 0}, {codeOf(1e15+1) + "a", 0}, {codeOf(math.MaxInt64) + "a", 0}, {codeOf(math.MinInt64) + "a", 0},
	}
	for _, c := range cases {
		text, end, ok := impl.GetText(c.s, c.at)
		fails(t, "GetText", text, end, ok)
	}
	text, end, ok := impl.GetText("\x00\x02", 0)
	same(t, "empty text", results(text, end, ok), results("", int64(1), true))
}

// TestMixedCodes reads codes of all kinds, written one behind another, each from the index behind the one before it.
func TestMixedCodes(t *testing.T) {
	number, _ := impl.PutNumber(-1234567)
	list, _ := impl.PutList([]int64{3, 1e15, -64})
	text, _ := impl.PutText("abc\x80")
	s := list + number + text + number
	numbers, at, a := impl.GetList(s, 0)
	first, at, b := impl.GetNumber(s, at)
	part, at, c := impl.GetText(s, at)
	last, at, d := impl.GetNumber(s, at)
	same(t, "codes", results(numbers, first, part, last, at, a, b, c, d), results([]int64{3, 1e15, -64}, int64(-1234567), "abc\x80", int64(-1234567), int64(len(s)), true, true, true, true))
}

func TestListsAreNew(t *testing.T) {
	code, _ := impl.PutList([]int64{1, 2, 3})
	first, _, _ := impl.GetList(code, 0)
	second, _, _ := impl.GetList(code, 0)
	_ = append(first[:0], 9, 9, 9, 9)
	if !slices.Equal(second, []int64{1, 2, 3}) {
		t.Errorf("two results share memory: %v", second)
	}
}
