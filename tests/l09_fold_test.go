package tests

import (
	"fmt"
	"strings"
	"testing"

	"loop.example/g01105/impl"
)

// foldCase is a rule of FoldCode with some numbers, none of which lets another rule apply.
type foldCase struct {
	text, want string
}

func foldCases() []foldCase {
	return []foldCase{
		{"push 3;scale 4", "push 12"},
		{"push 3;push 4;add", "push 7"},
		{"push 0;load 2;add", "load 2"},
		{"push 0;load 2;scale 3;add", "load 2;scale 3"},
		{"load 1;push 0;add", "load 1"}, {"add;push 0;add", "add"}, {"scale 5;push 0;add", "scale 5"}, {"get;push 0;add", "get"},
		{"load 1;scale 1", "load 1"}, {"add;scale 1", "add"}, {"get;scale 1", "get"},
		{"scale 3;scale 4", "scale 12"},
	}
}

// joinedText returns the text of several parts, without the empty ones.
func joinedText(parts ...string) string {
	var text []string
	for _, part := range parts {
		if part != "" {
			text = append(text, part)
		}
	}
	return strings.Join(text, ";")
}

// TestRulesOfFoldCode applies each rule alone, at the beginning, in the middle and at the end of code.
func TestRulesOfFoldCode(t *testing.T) {
	for _, c := range foldCases() {
		for _, front := range []string{"", "emit 1", "halt", "load 0;store 0", "put;emit 0;check"} {
			for _, behind := range []string{"", "emit 2", "store 0;halt", "put;load 0;check;emit 3"} {
				becomes(t, impl.FoldCode, joinedText(front, c.text, behind), joinedText(front, c.want, behind))
			}
		}
		becomes(t, impl.FoldCode, joinedText(c.text, "emit 1", c.text), joinedText(c.want, "emit 1", c.want))
	}
}

// TestEntriesOfFoldCode has a point, or the place of OpTest and OpJump, at each instruction of each rule, and behind it.
func TestEntriesOfFoldCode(t *testing.T) {
	for _, c := range foldCases() {
		parts, wanted := strings.Split(c.text, ";"), strings.Split(c.want, ";")
		for _, front := range []string{"", "emit 1", "emit 1;emit 2"} {
			first := len(instrs(joinedText(front, "halt"))) - 1
			for i := range len(parts) + 1 {
				before, behind := joinedText(parts[:i]...), joinedText(append(parts[i:], "emit 3")...)
				place := first + i
				wantBefore, wantBehind, wantPlace := before, behind, place
				if i == 0 {
					wantBehind = joinedText(c.want, "emit 3")
				} else if i == len(parts) {
					wantBefore, wantPlace = c.want, first+len(wanted)
				}
				becomes(t, impl.FoldCode, joinedText(front, before, "point;at a", behind), joinedText(front, wantBefore, "point;at a", wantBehind))
				for _, leading := range []string{"jump", "load 0;test"} {
					becomes(t, impl.FoldCode, joinedText(front, before, behind, fmt.Sprintf("%s %d", leading, place)), joinedText(front, wantBefore, wantBehind, fmt.Sprintf("%s %d", leading, wantPlace)))
				}
			}
		}
	}
}

// TestPlacesAmongFolded has places and points before, between and behind what is folded.
func TestPlacesAmongFolded(t *testing.T) {
	for _, c := range foldCases() {
		lost := len(strings.Split(c.text, ";")) - len(strings.Split(c.want, ";"))
		// The code leads to itself from before and from behind, and to places beyond its end.
		made := func(text string, lost int) string {
			return fmt.Sprintf("point;at b;emit 0;jump %d;%s;point;at c;emit 1;%s;point;at d;emit 2;jump %d;jump 1;jump 2;jump %d", 20-lost, text, text, 70-lost, 2+len(strings.Split(text, ";")))
		}
		becomes(t, impl.FoldCode, made(c.text, 0), made(c.want, 2*lost))
	}
	becomes(t, impl.FoldCode, "push 3;scale 4;jump 79", "push 12;jump 78")
	becomes(t, impl.FoldCode, "push 3;scale 4;store 0;jump 0", "push 12;store 0;jump 0")
	becomes(t, impl.FoldCode, "load 0;test 5;push 0;load 1;add;store 1;load 2;scale 1;jump 5;jump 6", "load 0;test 3;load 1;store 1;load 2;jump 3;jump 4")
}

func TestLimitsOfFoldCode(t *testing.T) {
	fold := impl.FoldCode
	for text, want := range map[string]string{
		"push 1000;scale 1000": "push 1000000", "push -1000;scale 1000": "push -1000000", "push 1000;scale -1000": "push -1000000", "push -1000;scale -1000": "push 1000000", "push 1000000;scale 1": "push 1000000", "push 1000000;scale -1": "push -1000000", "push 1000000;scale 0": "push 0", "push 0;scale -1000000": "push 0", "push 7;scale 1": "push 7",
		"push 999999;push 1;add": "push 1000000", "push -999999;push -1;add": "push -1000000", "push 1000000;push 0;add": "push 1000000", "push 0;push -1000000;add": "push -1000000", "push 1000000;push -1000000;add": "push 0", "push 0;push 0;add": "push 0", "push 500000;push 500000;add": "push 1000000",
		"scale 1000;scale 1000": "scale 1000000", "scale -1000;scale 1000": "scale -1000000", "scale -1000;scale -1000": "scale 1000000", "scale 1000000;scale 0": "scale 0", "scale 0;scale -1000000": "scale 0", "scale 1;scale 5": "scale 5", "scale 5;scale 1": "scale 5", "scale 1;scale 1": "scale 1", "scale 1000000;scale -1": "scale -1000000",
	} {
		becomes(t, fold, text, want)
		becomes(t, fold, joinedText("emit 1", text, "store 0;halt"), joinedText("emit 1", want, "store 0;halt"))
	}
	stays(t, fold, "push 101;scale 9901", "push -101;scale 9901", "push 101;scale -9901", "push 500001;scale 2", "push 1000000;scale 2", "push 1000000;scale 1000000", "push -1000000;scale 1000000", "push -1000000;scale -1000000",
		"push 1000000;push 1;add", "push 1;push 1000000;add", "push -1000000;push -1;add", "push -999999;push -2;add", "push 500000;push 500001;add", "push 1000000;push 1000000;add",
		"scale 101;scale 9901", "scale -101;scale 9901", "scale 1000000;scale 2", "scale 1000000;scale -1000000")
}

// TestOtherCodeOfFoldCode has code that is nearly that of a rule.
func TestOtherCodeOfFoldCode(t *testing.T) {
	stays(t, impl.FoldCode, "push 1;load 0;add", "push -1;load 0;add", "push 1;load 0;scale 2;add", "push 0;load 0", "push 0;load 0;scale 2", "push 0;load 0;scale 2;store 0", "push 0;load 0;put", "push 0;load 0;load 1;add", "push 0;load 0;scale 0;check", "push 0;load 0;get;add",
		"load 0;push 1;add", "load 0;push -1;add", "load 0;push 0", "load 0;push 0;put", "add;push 1;add", "scale 2;push 1;add", "get;push 1;add", "store 0;push 0;add", "put;push 0;add", "emit 0;push 0;add", "check;push 0;add", "halt;push 0;add", "push 0;add", "load 0;push 0;check",
		"load 0;scale 0", "load 0;scale -1", "load 0;scale 2", "add;scale 2", "get;scale 0", "store 0;scale 1", "put;scale 1", "emit 1;scale 1", "halt;scale 1", "check;scale 1", "scale 1", "load 0;test 2;scale 1", "load 0;test 1;scale 1", "jump 1;scale 1", "halt;jump 0;scale 1",
		"push 3;push 4", "push 3;push 4;put", "push 3;load 0;scale 4", "push 3", "scale 3;push 3;scale 1000000", "scale 3;load 0", "scale 3", "push 3;get", "push 3;store 0;scale 4", "push 3;push 4;push 1000000", "load 0;push 3;load 1;add;add", "load 0;load 1;add", "push 3;emit 0;scale 4", "push 3;emit 0;push 4;add", "load 1;emit 1;push 0;add")
}

// TestRulesOneAfterAnother has rules that apply only after another one has, and such of which the one at the least index counts.
func TestRulesOneAfterAnother(t *testing.T) {
	for text, want := range map[string]string{
		"push 3;scale 4;push 5;add;scale 1;store 0;halt": "push 17;store 0;halt", "push 0;load 1;add;store 0": "load 1;store 0", "push 0;load 0;add;scale 1": "load 0", "push 0;load 0;scale 1;add": "load 0", "push 0;load 0;scale 2;scale 3;add": "load 0;scale 6", "push 0;load 0;add;load 1;scale 1;add;scale 1;scale 5": "load 0;load 1;add;scale 5",
		"push 2;push 3;scale 4;add": "push 14", "push 0;push 0;load 0;add;add": "load 0", "load 0;push 0;load 1;add;add": "load 0;load 1;add", "load 0;push 0;add;push 0;add": "load 0", "load 0;push 0;push 0;add;add": "load 0", "load 0;push 5;scale 0;add": "load 0", "load 0;push 5;push -5;add;add": "load 0", "scale 2;push 0;add;scale 3": "scale 6",
		"push 1;push 2;push 3;add;add": "push 6", "push 1;push 2;add;push 3;add": "push 6", "push 2;scale 3;scale 4;scale 5": "push 120", "get;scale 1;scale 1;push 0;add;scale 1": "get", "add;push 0;add;scale 1;scale 2": "add;scale 2", "load 0;scale 1;scale 7": "load 0;scale 7", "load 0;scale 1;push 0;add;push 0;add": "load 0",
		"push 0;scale 5;load 2;scale 7;add": "load 2;scale 7", "push 3;push -3;add;load 2;add": "load 2", "push 0;push 0;load 1;scale 2;add;add": "load 1;scale 2", "load 0;scale 2;push 0;add;scale 3;push 0;add": "load 0;scale 6",
		// Numbers that are too great let the rule behind them apply first, or leave some over.
		"push 1000000;scale 2;scale 0": "push 0", "scale 1000;scale 1000;scale 1000": "scale 1000000;scale 1000", "push 1000;scale 1000;scale 1000": "push 1000000;scale 1000", "scale 1000000;scale 2;scale 0": "scale 0", "push 1000000;push 1;add;scale 0": "push 1000000;push 1;add;scale 0", "push 1000000;push 2;scale 0;add": "push 1000000", "push 1000000;push 1;push -1;add;add": "push 1000000",
		"scale 1000;scale 1001;scale 1000": "scale 1000;scale 1001;scale 1000", "scale 1001;scale 1000;scale 1000;scale 0": "scale 0", "scale 1001;scale 1000;scale 1000": "scale 1001;scale 1000000", "push 1000000;push 1;add;push -1;add": "push 1000000;push 1;add;push -1;add",
	} {
		becomes(t, impl.FoldCode, text, want)
	}
	// A place at one of them leaves the others.
	becomes(t, impl.FoldCode, "push 0;load 0;scale 1;add;jump 1", "push 0;load 0;add;jump 1")
	becomes(t, impl.FoldCode, "push 2;scale 3;scale 4;scale 5;jump 2", "push 6;scale 20;jump 1")
	becomes(t, impl.FoldCode, "load 0;push 0;add;point;push 0;add", "load 0;point;push 0;add")
	becomes(t, impl.FoldCode, strings.Repeat("scale 1;", 79)+"scale 7", "scale 7")
	becomes(t, impl.FoldCode, "load 0"+strings.Repeat(";push 0;add", 39)+";halt", "load 0;halt")
	becomes(t, impl.FoldCode, "push 1"+strings.Repeat(";scale 10", 8), "push 1000000;scale 100")
}
