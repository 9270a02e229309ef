package tests

import (
	"fmt"
	"regexp"
	"slices"
	"strings"
	"testing"

	"loop.example/g01105/impl"
)

func TestInstrText(t *testing.T) {
	for _, row := range opRows() {
		for _, arg := range []int64{row.low, row.high, 0} {
			want := row.name
			if row.high > 0 {
				want = fmt.Sprintf("%s %d", row.name, arg)
			}
			x := impl.Instr{Op: row.op, Arg: arg}
			text, ok := impl.InstrText(x)
			same(t, "InstrText", results(text, ok), results(want, true))
			again, ok := impl.ReadInstr(want)
			same(t, "ReadInstr", results(again, ok), results(x, true))
		}
	}
	text, ok := impl.InstrText(impl.Instr{Op: impl.OpScale, Arg: -2})
	same(t, "InstrText", results(text, ok), results("scale -2", true))
	for _, bad := range badInstrs() {
		text, ok := impl.InstrText(bad)
		fails(t, shown(bad), text, ok)
	}
}

// badInstrTexts are no texts of instructions.
func badInstrTexts() []string {
	lines := []string{"", " ", "nop", "nop 1", "Halt", "HALT", "pushh 1", "pus 1", "p 1", "1", " 1", "push1", "push 1 1", "push 1 push 1", "halt;halt", "h\u00e4lt", "halt\x00", "push 1\x00", "push \u0661", "push 1_0", "push 0x1", "push 1e1", "push 1.0", "push --1", "push -", "push a", "load a", "load a+1"}
	for _, row := range opRows() {
		if row.high == 0 {
			lines = append(lines, row.name+" 0", row.name+" 1", row.name+" ", row.name+" -0", " "+row.name, row.name+"\n", row.name+"\r", row.name+"0", row.name+" "+row.name)
			continue
		}
		for _, arg := range []string{"", " ", "  1", " 1 ", " +1", " -0", " 01", " 00", " 1\n", " 1\r", "\t1", "1", " 9999999999", " 99999999999999999999", " -99999999999999999999"} {
			lines = append(lines, row.name+arg)
		}
		lines = append(lines, " "+row.name+" 1", fmt.Sprintf("%s %d", row.name, row.low-1), fmt.Sprintf("%s %d", row.name, row.high+1), strings.ToUpper(row.name)+" 1")
	}
	return lines
}

func TestReadInstr(t *testing.T) {
	for _, line := range append(badInstrTexts(), oddStrings()...) {
		x, ok := impl.ReadInstr(line)
		fails(t, line[:min(len(line), 50)], x, ok)
	}
}

func TestCodeText(t *testing.T) {
	example := "load 0\ntest 4\nemit 1\njump 0\nhalt\n"
	code := []impl.Instr{{Op: impl.OpLoad}, {Op: impl.OpTest, Arg: 4}, {Op: impl.OpEmit, Arg: 1}, {Op: impl.OpJump}, {Op: impl.OpHalt}}
	text, ok := impl.CodeText(code)
	same(t, "CodeText", results(text, ok), results(example, true))
	read, ok := impl.ReadCode(example)
	same(t, "ReadCode", results(read, ok), results(code, true))
	for _, code := range append(manyCodes(500), validCodes()...) {
		want := ""
		for _, x := range code {
			line, _ := impl.InstrText(x)
			want += line + "\n"
		}
		text, ok := impl.CodeText(code)
		same(t, "CodeText", results(text, ok), results(want, true))
		read, ok := impl.ReadCode(text)
		same(t, "ReadCode", results(read, ok), results(code, true))
	}
	for _, bad := range badCodes() {
		text, ok := impl.CodeText(bad)
		fails(t, shown(bad), text, ok)
	}
}

func TestReadCode(t *testing.T) {
	for _, count := range []int{1, 79, 80} {
		code, ok := impl.ReadCode(strings.Repeat("scale -1000000\n", count))
		same(t, "ReadCode", results(code, ok), results(alike(impl.Instr{Op: impl.OpScale, Arg: -1e6}, count), true))
	}
	texts := append(oddStrings(), "", "\n", "\n\n", "halt", "halt\n\n", "\nhalt\n", "halt\n\nhalt\n", "halt\nhalt", "halt\r\n", "halt\n ", "halt\n\x00", "halt halt\n", "halt;halt\n", strings.Repeat("halt\n", 81), strings.Repeat("halt\n", 8001), strings.Repeat("halt\n", 1000000))
	for _, line := range badInstrTexts() {
		texts = append(texts, line, line+"\n", "halt\n"+line+"\n", line+"\nhalt\n", "push 1\n"+line+"\nhalt\n")
	}
	for _, text := range texts {
		code, ok := impl.ReadCode(text)
		// A line that ends too early, or has a newline too much, can still leave the text of other code.
		if whole := strings.HasSuffix(text, "\n") && isCodeText(text); whole != ok {
			t.Errorf("ReadCode: %t for %q", ok, text[:min(len(text), 50)])
		}
		if !ok {
			fails(t, "ReadCode", code, ok)
		}
	}
}

// codeGrammar has numbers with at most six digits, and one million.
var codeGrammar = regexp.MustCompile(`^((push|scale) (0|-?[1-9][0-9]{0,5}|-?1000000)\n|(load|store|emit) [0-3]\n|(jump|test) ([1-7]?[0-9])\n|(add|get|put|check|halt)\n)+$`)

// isCodeText tells by a second grammar whether a text is that of code.
func isCodeText(text string) bool {
	return codeGrammar.MatchString(text) && strings.Count(text, "\n") <= 80
}

// TestChangedTextsOfCode changes texts of code by one byte, and requires what the second grammar tells.
func TestChangedTextsOfCode(t *testing.T) {
	read := 0
	for i, code := range manyCodes(150) {
		text, _ := impl.CodeText(code)
		for at := i % 7; at < len(text); at += 7 {
			var changed []string
			for _, letter := range []string{"", " ", "\n", "0", "1", "9", "-", "+", "a", "t"} {
				changed = append(changed, text[:at]+letter+text[at+1:], text[:at]+letter+text[at:])
			}
			for _, other := range slices.Compact(changed) {
				code, ok := impl.ReadCode(other)
				same(t, other, ok, isCodeText(other))
				again, _ := impl.CodeText(code)
				if ok && again != other {
					t.Errorf("%q is read as %q", other, again)
				}
				if ok {
					read++
				}
			}
		}
	}
	if read < 1000 {
		t.Errorf("only %d changed texts are texts of code", read)
	}
}
