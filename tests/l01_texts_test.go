package tests

import (
	"encoding/hex"
	"hash/adler32"
	"strings"
	"testing"

	"loop.example/g01105/impl"
)

// allBytes has each byte once.
func allBytes() string {
	var bytes []byte
	for b := range 256 {
		bytes = append(bytes, byte(b))
	}
	return string(bytes)
}

func TestCheckOf(t *testing.T) {
	numbers := map[string]int64{"": 1, "\x00": 1 + 65521, "a": 98 + 65521*98, "ab": 196 + 65521*294, "ba": 196 + 65521*295, "\x00\x00": 1 + 65521*2}
	for s, n := range numbers {
		same(t, "CheckOf "+s, impl.CheckOf(s), n)
	}
	for _, s := range append(oddStrings(), allBytes(), strings.Repeat("\xff", 257), strings.Repeat(allBytes(), 300), strings.Repeat("\xff", 100000)) {
		sum := int64(adler32.Checksum([]byte(s)))
		same(t, "CheckOf", impl.CheckOf(s), sum%65536+65521*(sum/65536))
	}
	// One byte more than this makes a the prime itself, whose remainder is 0.
	s := strings.Repeat("\xff", 256) + "\xf0"
	same(t, "a before the prime", impl.CheckOf(s[:256]+"\xef")%65521, int64(65520))
	same(t, "a at the prime", impl.CheckOf(s)%65521, int64(0))
}

func TestHexOf(t *testing.T) {
	digits := map[string]string{"": "", "ab": "6162", "\x00": "00", "\x0a": "0a", "\xa0": "a0", "\xff\x01": "ff01", "\u00e4": "c3a4"}
	for s, h := range digits {
		got, ok := impl.HexOf(s)
		same(t, "HexOf", results(got, ok), results(h, true))
	}
	for _, s := range []string{allBytes(), strings.Repeat("\x9f", 39999), strings.Repeat("\x9f", 40000)} {
		h, ok := impl.HexOf(s)
		same(t, "HexOf", results(h, ok), results(hex.EncodeToString([]byte(s)), true))
		got, ok := impl.ReadHex(h)
		same(t, "ReadHex", results(got, ok), results(s, true))
	}
	h, ok := impl.HexOf(strings.Repeat("a", 40001))
	fails(t, "HexOf", h, ok)
}

func TestReadHex(t *testing.T) {
	strs := map[string]string{"": "", "00": "\x00", "0a": "\n", "6162": "ab", "f9": "\xf9", "9f": "\x9f"}
	for h, s := range strs {
		got, ok := impl.ReadHex(h)
		same(t, "ReadHex "+h, results(got, ok), results(s, true))
	}
	bad := []string{
		"0", "a", "0A", "A0", "FF", "aB", "000", "61626", "0g", "g0", "/0", "0:", "0`", "0x", "0x61", " 61", "61 ", "61\n", "6 1", "-1", "+1", "\x000", "0\x00", "\u00e4", "\xff\xff", "zz",
		strings.Repeat("0", 80001), strings.Repeat("0", 80002), strings.Repeat("61", 40000) + "6", strings.Repeat("61", 39999) + "6G",
	}
	for _, h := range bad {
		s, ok := impl.ReadHex(h)
		fails(t, "ReadHex", s, ok)
	}
	for b := range 256 {
		h := "0" + string([]byte{byte(b)})
		s, ok := impl.ReadHex(h)
		if strings.ContainsAny(h[1:], "0123456789abcdef") && b < 128 {
			back, _ := impl.HexOf(s)
			same(t, "ReadHex", results(back, ok), results(h, true))
		} else {
			fails(t, "ReadHex", s, ok)
		}
	}
}

func TestLinesOf(t *testing.T) {
	cases := []struct {
		s     string
		lines []string
	}{
		{"", []string{}}, {"\n", []string{""}}, {"a\n", []string{"a"}}, {"a\n\nb\n", []string{"a", "", "b"}}, {"\n\n", []string{"", ""}}, {"\na\n", []string{"", "a"}},
		{" a b \n\t\n", []string{" a b ", "\t"}}, {"a\r\n", []string{"a\r"}}, {"\xff\n\u00e4\n", []string{"\xff", "\u00e4"}}, {"a\x00\n", []string{"a\x00"}},
		{strings.Repeat("\n", 40000), make([]string, 40000)}, {strings.Repeat("a", 39999) + "\n", []string{strings.Repeat("a", 39999)}},
	}
	for _, c := range cases {
		lines, ok := impl.LinesOf(c.s)
		same(t, "LinesOf", results(lines, ok), results(c.lines, true))
	}
	bad := []string{"a", " ", "a\nb", "\na", "a\r", "\n ", strings.Repeat("\n", 40001), strings.Repeat("a", 40000) + "\n", strings.Repeat("a", 40000)}
	for _, s := range bad {
		lines, ok := impl.LinesOf(s)
		fails(t, "LinesOf", lines, ok)
	}
}

func TestWordsOf(t *testing.T) {
	cases := []struct {
		line  string
		words []string
	}{
		{"", []string{""}}, {"a", []string{"a"}}, {"a b", []string{"a", "b"}}, {"a  b", []string{"a", "", "b"}}, {" ", []string{"", ""}}, {"  ", []string{"", "", ""}},
		{" a", []string{"", "a"}}, {"a ", []string{"a", ""}}, {"a\tb\nc d", []string{"a\tb\nc", "d"}}, {"\xff \u00e4\u00a0b", []string{"\xff", "\u00e4\u00a0b"}},
		{strings.Repeat(" ", 50000), make([]string, 50001)},
	}
	for _, c := range cases {
		same(t, "WordsOf", impl.WordsOf(c.line), c.words)
	}
}

func TestPartsAreNew(t *testing.T) {
	first, _ := impl.LinesOf("a\nb\n")
	second, _ := impl.LinesOf("a\nb\n")
	words, others := impl.WordsOf("a b"), impl.WordsOf("a b")
	_ = append(first[:0], "x", "y", "z")
	_ = append(words[:0], "x", "y", "z")
	same(t, "LinesOf", second, []string{"a", "b"})
	same(t, "WordsOf", others, []string{"a", "b"})
}
