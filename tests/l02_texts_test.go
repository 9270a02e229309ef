package tests

import (
	"regexp"
	"strconv"
	"strings"
	"testing"

	"loop.example/g01105/impl"
)

func TestTermText(t *testing.T) {
	cases := []struct {
		t    impl.Term
		text string
	}{
		{fact(3, 2, -1), "2a-b+3"}, {fact(-4, -2, 1), "-2a+b-4"}, {fact(0), "0"}, {fact(1), "1"}, {fact(-1), "-1"}, {fact(10), "10"}, {fact(1e6), "1000000"}, {fact(-1e6), "-1000000"}, {alone(0, 1), "a"}, {alone(0, -1), "-a"}, {alone(0, 2), "2a"}, {alone(9, -11), "-11j"},
		{fact(1, 1, 1), "a+b+1"}, {fact(-1, -1, -1), "-a-b-1"}, {fact(0, 0, 1, 0, -1), "b-d"}, {fact(5, 0, 0, 7), "7c+5"}, {fact(0, 10, 0, 100), "10a+100c"}, {fact(0, 1, 2, 3, 4, 5, 6, 7, 8, 9, 10), "a+2b+3c+4d+5e+6f+7g+8h+9i+10j"},
		{fact(-1e6, repeated(-1e6, 10)...), "-1000000a-1000000b-1000000c-1000000d-1000000e-1000000f-1000000g-1000000h-1000000i-1000000j-1000000"}, {fact(7, 4, -6), "4a-6b+7"}, {fact(3, 2, -3), "2a-3b+3"},
	}
	for _, c := range cases {
		text, ok := impl.TermText(c.t)
		same(t, "TermText", results(text, ok), results(c.text, true))
		got, ok := impl.ReadTerm(c.text)
		isTerm(t, "ReadTerm "+c.text, got, ok, c.t)
	}
	for _, bad := range badTerms() {
		text, ok := impl.TermText(bad)
		fails(t, shown(bad), text, ok)
	}
}

func TestTermsAreReadBack(t *testing.T) {
	seen := map[string]bool{}
	for _, x := range validTerms() {
		text, ok := impl.TermText(x)
		same(t, shown(x), ok, true)
		got, ok := impl.ReadTerm(text)
		isTerm(t, "ReadTerm "+text, got, ok, x)
		seen[text] = true
		for k := range len(text) {
			for _, part := range []string{"+", "-", "0", "1", "a", "k", " ", ";", "\x00", "\u00e4"} {
				isRead(t, text[:k]+part+text[k:])
				isRead(t, text[:k]+part+text[k+1:])
			}
			isRead(t, text[:k]+text[k+1:])
		}
	}
	same(t, "other terms, other texts", len(seen), len(validTerms()))
}

// termForm is the form of the text of a term other than 0 that begins with a sign, with a number of any size.
var termForm = func() *regexp.Regexp {
	form := "^"
	for _, name := range "abcdefghij" {
		form += "([+-]([2-9]|[1-9][0-9]+)?" + string(name) + ")?"
	}
	return regexp.MustCompile(form + "([+-][1-9][0-9]*)?$")
}()

var digits = regexp.MustCompile("[0-9]+")

// isTermText reports whether a string is the text of a valid term, without reading it.
func isTermText(s string) bool {
	if s == "0" {
		return true
	}
	for _, number := range digits.FindAllString(s, -1) {
		if n, err := strconv.Atoi(number); err != nil || n > 1000000 {
			return false
		}
	}
	if s != "" && !strings.ContainsAny(s[:1], "+-") {
		return termForm.MatchString("+" + s)
	}
	return strings.HasPrefix(s, "-") && termForm.MatchString(s)
}

// isRead requires that a string is read if, and only if, it is the text of a term, which then is the one that is read.
func isRead(t *testing.T, s string) {
	t.Helper()
	got, ok := impl.ReadTerm(s)
	if !isTermText(s) {
		fails(t, "ReadTerm "+strconv.Quote(s), got, ok)
		return
	}
	text, valid := impl.TermText(got)
	same(t, "ReadTerm "+s, results(text, valid, ok), results(s, true, true))
}

func TestReadTerm(t *testing.T) {
	bad := []string{
		"", "+", "-", "+0", "-0", "00", "01", "0a", "-0a", "a+0", "a-0", "+a", "+1", "1a", "-1a", "a+1b", "b+a", "b-a", "1+a", "3+2a", "a+a", "2a-a", "a-a", "1+1", "1-1", "a+b+a", "a+1+1", "02a", "a+02b", "a--b", "a++b", "a+-b", "--a", "+-a", "-+a", "a+", "a-", "ab", "aa", "a1", "a2b", "2ab",
		" a", "a ", "a + b", "A", "k", "2k", "1000001", "-1000001", "1000001a", "-1000001a", "a+1000001", "9223372036854775808", "18446744073709551617", "99999999999999999999a", "0x1", "1e3", "1_0", "2*a", "a\n", "a;", "=>a", "\u00e4", "\u0661", "\xff", "a\x00", "a,b",
		strings.Repeat("a+", 100000) + "a", strings.Repeat("a", 100000), strings.Repeat("-", 100000), strings.Repeat("9", 100000), strings.Repeat("0", 100000), "a+b+c+d+e+f+g+h+i+j+1+1", "a+b+c+d+e+f+g+h+i+j+k",
	}
	for _, s := range bad {
		got, ok := impl.ReadTerm(s)
		fails(t, "ReadTerm "+s[:min(len(s), 50)], got, ok)
		same(t, "the form of "+s[:min(len(s), 50)], isTermText(s), false)
	}
}

// TestShortTerms holds all strings with few bytes against the form of texts.
func TestShortTerms(t *testing.T) {
	strs := []string{""}
	for range 5 {
		for _, s := range strs {
			isRead(t, s)
		}
		var longer []string
		for _, s := range strs {
			for _, b := range "+-012abj" {
				longer = append(longer, s+string(b))
			}
		}
		strs = longer
	}
	for b := range 256 {
		for _, s := range []string{"", "a+", "2", "a", "a+2"} {
			isRead(t, s+string([]byte{byte(b)}))
			isRead(t, string([]byte{byte(b)})+s)
		}
	}
}

func TestSequentText(t *testing.T) {
	cases := []struct {
		s    impl.Sequent
		text string
	}{
		{sequent(fact(-1, 1), alone(0, 1)), "a;=>a-1"}, {impl.Sequent{}, "=>0"}, {sequent(fact(-1)), "=>-1"}, {sequent(fact(0), fact(0)), "0;=>0"}, {sequent(alone(9, -1), fact(3, 2, -1), fact(-4, -2, 1)), "2a-b+3;-2a+b-4;=>-j"},
		{sequent(fact(1), factsOf(alone(0, 1), 13)...), strings.Repeat("a;", 13) + "=>1"}, {sequent(fact(-1e6, 1e6), fact(1e6, -1e6)), "-1000000a+1000000;=>1000000a-1000000"},
	}
	for _, c := range cases {
		text, ok := impl.SequentText(c.s)
		same(t, "SequentText", results(text, ok), results(c.text, true))
		got, ok := impl.ReadSequent(c.text)
		same(t, "ReadSequent "+c.text, results(got, ok), results(c.s, true))
	}
	for _, s := range validSequents() {
		text, one := impl.SequentText(s)
		got, two := impl.ReadSequent(text)
		same(t, "ReadSequent "+text, results(got, one, two), results(s, true, true))
	}
	for _, bad := range badSequents() {
		text, ok := impl.SequentText(bad)
		fails(t, shown(bad), text, ok)
	}
}

func TestReadSequent(t *testing.T) {
	bad := []string{
		"", "a", "=>", "a;", "a;=>", "a=>b", "=>;", "=>a;", ";=>a", ";;=>a", "a;;=>b", ";a;=>b", "a;b=>c", "a;=>b=>c", "=>=>a", "=>a=>", "a;=b", "a;>b", "a;= >b", "a; =>b", "a;=> b", " a;=>b", "a;=>b ", "a ;=>b", "a;=>b\n", "a,=>b", "a;=>>b", "a;==>b", "=>+a", "+a;=>b", "1a;=>b", "a;=>1b",
		"b+a;=>0", "0a;=>0", "=>0a", "=>-0", "=>1000001", "1000001;=>0", "k;=>0", "=>k", "a;b;", "=>a;b", strings.Repeat("a;", 14) + "=>1", strings.Repeat("a;", 100000) + "=>1", strings.Repeat(";", 100000) + "=>1", strings.Repeat("=>", 100000), strings.Repeat("a", 100000) + ";=>1",
	}
	for _, s := range bad {
		got, ok := impl.ReadSequent(s)
		fails(t, "ReadSequent "+s[:min(len(s), 50)], got, ok)
	}
	for _, s := range validSequents()[:30] {
		text, _ := impl.SequentText(s)
		for k := range len(text) {
			for _, changed := range []string{text[:k] + text[k+1:], text[:k] + ";" + text[k:], text[:k] + "+" + text[k:], text[:k] + "=>" + text[k:], text[:k]} {
				isReadSequent(t, changed)
			}
		}
	}
}

// isReadSequent requires that a string is read if, and only if, it has the form of the text of a sequent.
func isReadSequent(t *testing.T, s string) {
	t.Helper()
	got, ok := impl.ReadSequent(s)
	parts := strings.Split(s, ";")
	goal, marked := strings.CutPrefix(parts[len(parts)-1], "=>")
	good := marked && isTermText(goal) && len(parts) <= 14
	for _, part := range parts[:len(parts)-1] {
		good = good && isTermText(part)
	}
	if !good {
		fails(t, "ReadSequent "+strconv.Quote(s), got, ok)
		return
	}
	text, valid := impl.SequentText(got)
	same(t, "ReadSequent "+s, results(text, valid, ok), results(s, true, true))
}
