package tests

import (
	"fmt"
	"regexp"
	"slices"
	"strconv"
	"strings"
	"testing"

	"loop.example/g01105/impl"
)

// policyTextAgain returns the text of a policy by another way.
func policyTextAgain(p impl.Policy) string {
	text := ""
	for state, row := range p.Next {
		for event, to := range row {
			mark := "/"
			if event > 0 {
				mark = ","
			} else if state == 0 {
				mark = ""
			}
			text += mark + strings.ReplaceAll(fmt.Sprint(to), "-1", "x")
		}
	}
	return text
}

// isReadPolicy requires that a policy has a text, and is read from it.
func isReadPolicy(t *testing.T, p impl.Policy, want string) {
	t.Helper()
	text, ok := impl.PolicyText(p)
	same(t, shown(p), results(text, ok), results(want, true))
	again, ok := impl.ReadPolicy(want)
	same(t, want, results(again, ok), results(p, true))
}

func TestPolicyText(t *testing.T) {
	isReadPolicy(t, rows(list(0, -1, -1, 0)), "0,x,x,0")
	isReadPolicy(t, rows(repeated(-1, 4)), nothing)
	isReadPolicy(t, rows(repeated(0, 4)), everything)
	isReadPolicy(t, rows(list(1, -1, -1, -1), list(-1, 0, -1, -1)), inTurn)
	isReadPolicy(t, rows(list(1, 0, -1, 1), list(-1, 0, 1, 0)), "1,0,x,1/x,0,1,0")
	// States of two digits.
	eleven := rows(slices.Repeat([][]int64{list(10, 9, -1, 1)}, 11)...)
	isReadPolicy(t, eleven, strings.Repeat("10,9,x,1/", 10)+"10,9,x,1")
	isReadPolicy(t, rows(slices.Repeat([][]int64{list(11, 10, 0, -1)}, 12)...), strings.Repeat("11,10,0,x/", 11)+"11,10,0,x")
	isReadPolicy(t, rope(12), "1,x,x,x/2,x,x,x/3,x,x,x/4,x,x,x/5,x,x,x/6,x,x,x/7,x,x,x/8,x,x,x/9,x,x,x/10,x,x,x/11,x,x,x/x,x,x,x")
	for _, p := range slices.Concat(limitPolicies(), manyPolicies(600)) {
		isReadPolicy(t, p, policyTextAgain(p))
	}
}

// TestBadTextsOfPolicies has texts that are like those of policies.
func TestBadTextsOfPolicies(t *testing.T) {
	bad := []string{
		// Signs, zeros in front, spaces, and other letters.
		"+0,0,0,0", "0,+0,0,0", "-0,0,0,0", "-1,0,0,0", "x,-1,x,x", "0,0,0,-1", "-x,x,x,x", "00,0,0,0", "0,0,0,00", "1,x,x,x/x,01,x,x", "x,x,x,001/x,x,x,x", " 0,0,0,0", "0,0,0,0 ", "0, 0,0,0", "0,0 ,0,0", "0,0,0,0\n", "\n0,0,0,0", "0,0,0,0\x00", "0,0,\t0,0", "X,x,x,x", "xx,x,x,x", "0x,x,x,x", "x0,x,x,x", "x,x,x,y", "a,x,x,x", "0.0,0,0,0", "1e0,x,x,x/x,x,x,x", "0x0,0,0,0", "0_0,0,0,0", "\u0660,0,0,0", "×,x,x,x",
		// Empty parts, and too few or too many.
		"", ",", "/", ",,,", "///", ",,,/,,,", "0", "x", "0,0", "0,0,0", "0,0,0,0,0", "x,x,x,x,x", "0,,0,0", "0,0,0,", ",0,0,0", "0,0,0,0,", ",0,0,0,0", ",x,x,x", "x,x,x,", "x,x,,x", "0,0,0/0", "0,0/0,0", "0,0,0,0/0,0,0", "0,0,0/0,0,0,0", "0,0,0,0/0,0,0,0,0", "0,0,0,0,0/0,0,0", "0,0,0,0/", "/0,0,0,0", "0,0,0,0//0,0,0,0", "0,0,0,0/,", "0,0,0,0/0,0,0,0/", "0,0,0,0/0,0,0,0,", "0,0,0,0/x", "0,0,0,0,/0,0,0,0", "0,0,0,0/,0,0,0,0",
		// Other marks.
		"0;0;0;0", "0 0 0 0", "0,0,0,0;0,0,0,0", "0,0,0,0\n0,0,0,0", "0/0/0/0", "0,0,0,0|0,0,0,0", "[0,0,0,0]", "0000", "xxxx",
		// States that there are not.
		"1,x,x,x", "0,0,0,1", "2,x,x,x/x,x,x,x", "x,x,x,x/x,x,x,2", "x,x,x,x/3,x,x,x/x,x,x,x", strings.Repeat("x,x,x,x/", 11) + "x,12,x,x", strings.Repeat("x,x,x,x/", 10) + "x,11,x,x", "9223372036854775807,x,x,x", "9223372036854775808,x,x,x", "18446744073709551616,x,x,x", "1000000000,x,x,x", strings.Repeat("9", 1000) + ",x,x,x",
		// Too many states.
		strings.Repeat("x,x,x,x/", 12) + nothing, strings.Repeat("0,0,0,0/", 12) + everything, strings.Repeat("0,0,0,0/", 50000) + everything, strings.Repeat("0,", 100000) + "0", strings.Repeat("/", 100000), strings.Repeat(",", 100000), strings.Repeat("x", 100000),
	}
	for _, text := range append(bad, oddStrings()...) {
		p, ok := impl.ReadPolicy(text)
		fails(t, text[:min(len(text), 60)], p, ok)
	}
}

var policyGrammar = regexp.MustCompile(`^(?:(?:x|\d|1[01])(?:,(?:x|\d|1[01])){3}(?:/|$)){1,12}$`)

// isPolicyText tells by a grammar whether a text is that of a policy.
func isPolicyText(text string) bool {
	if !policyGrammar.MatchString(text) || strings.HasSuffix(text, "/") {
		return false
	}
	count := 1 + strings.Count(text, "/")
	for part := range strings.SplitSeq(strings.ReplaceAll(text, "/", ","), ",") {
		if state, err := strconv.Atoi(part); err == nil && state >= count {
			return false
		}
	}
	return true
}

// TestChangedTextsOfPolicies changes texts by one byte, and requires what the grammar tells.
func TestChangedTextsOfPolicies(t *testing.T) {
	read, tried := 0, 0
	for i, p := range append(manyPolicies(120), limitPolicies()...) {
		text, _ := impl.PolicyText(p)
		same(t, text, isPolicyText(text), true)
		for at := i % 3; at <= len(text); at += 3 {
			changed := []string{text[:at], text[at:]}
			for _, letter := range []string{"", "0", "1", "9", "x", ",", "/", "-", "+", " ", "\n", "x,", "1/"} {
				changed = append(changed, text[:at]+letter+text[at:], text[:at]+letter+text[min(at+1, len(text)):])
			}
			for _, other := range changed {
				tried++
				p, ok := impl.ReadPolicy(other)
				if ok != isPolicyText(other) {
					t.Fatalf("%t for %q", ok, other)
				}
				if !ok {
					fails(t, other, p, ok)
					continue
				}
				read++
				again, _ := impl.PolicyText(p)
				same(t, "read back", again, other)
			}
		}
	}
	if read < 2000 || tried-read < 2000 {
		t.Errorf("%d of %d changed texts are read", read, tried)
	}
}
