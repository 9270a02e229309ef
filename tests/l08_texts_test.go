package tests

import (
	"fmt"
	"regexp"
	"slices"
	"strings"
	"testing"

	"loop.example/g01105/impl"
)

// annotatedTextAgain returns the text of annotated code by another way.
func annotatedTextAgain(a impl.Annotated) string {
	var text strings.Builder
	facts := func(word string, list []impl.Term) {
		for _, x := range list {
			fact, _ := impl.TermText(x)
			fmt.Fprintf(&text, "%s %s\n", word, fact)
		}
	}
	facts("pre", a.Pre)
	facts("post", a.Post)
	for k, x := range a.Code {
		for _, p := range a.Points {
			if p.At == int64(k) {
				text.WriteString("point\n")
				facts("at", p.Facts)
			}
		}
		instr, _ := impl.InstrText(x)
		text.WriteString(instr + "\n")
	}
	return text.String()
}

func TestAnnotatedText(t *testing.T) {
	a := impl.Annotated{
		Pre: []impl.Term{fact(0), alone(3, -1)}, Post: []impl.Term{fact(-7, 2, 1)}, Code: instrs("emit 3;push -5;jump 0;halt"),
		Points: []impl.Point{{At: 0}, {At: 1, Facts: []impl.Term{alone(0, 1), fact(-1, 0, 1), alone(0, 1)}}, {At: 3, Facts: []impl.Term{fact(1e6)}}},
	}
	want := "pre 0\npre -d\npost 2a+b-7\npoint\nemit 3\npoint\nat a\nat b-1\nat a\npush -5\njump 0\npoint\nat 1000000\nhalt\n"
	text, ok := impl.AnnotatedText(a)
	same(t, "AnnotatedText", results(text, ok), results(want, true))
	again, ok := impl.ReadAnnotated(want)
	same(t, "ReadAnnotated", results(again, ok), results(a, true))
	for _, a := range slices.Concat(validAnnotated(), manyAnnotated(900)) {
		text, ok := impl.AnnotatedText(a)
		same(t, "AnnotatedText", results(text, ok), results(annotatedTextAgain(a), true))
		again, ok := impl.ReadAnnotated(text)
		same(t, "ReadAnnotated", results(again, ok), results(a, true))
	}
	for _, a := range badAnnotated() {
		text, ok := impl.AnnotatedText(a)
		fails(t, "AnnotatedText", text, ok)
	}
}

// TestLinesOfCode reads texts with a line that stands where it must not, and texts like them that are read.
func TestLinesOfCode(t *testing.T) {
	good := []string{
		"halt\n", "pre a\nhalt\n", "post a\nhalt\n", "pre a\npost a\nhalt\n", "pre a\npre a\nhalt\n", "point\nhalt\n", "point\nat a\nhalt\n", "halt\npoint\nhalt\n", "halt\npoint\nat a\nat b\nhalt\n", "point\nhalt\npoint\nat -1\nhalt\n", "jump 79\n", "add\n",
		strings.Repeat("pre 0\n", 6) + strings.Repeat("post 1\n", 6) + strings.Repeat("point\n"+strings.Repeat("at d\n", 6)+"halt\n", 8) + strings.Repeat("halt\n", 72),
	}
	for _, text := range good {
		a, ok := impl.ReadAnnotated(text)
		again, _ := impl.AnnotatedText(a)
		same(t, text, results(again, ok), results(text, true))
	}
	bad := []string{
		// Facts ahead of their place, or behind it.
		"at a\nhalt\n", "at a\npoint\nhalt\n", "halt\nat a\nhalt\n", "halt\nat a\n", "point\nhalt\nat a\nhalt\n", "point\nhalt\nat a\n", "post a\npre a\nhalt\n", "pre a\npost a\npre a\nhalt\n", "halt\npre a\n", "halt\npost a\n", "halt\npre a\nhalt\n", "halt\npost a\nhalt\n", "point\npre a\nhalt\n", "point\npost a\nhalt\n", "point\nat a\npre a\nhalt\n", "at a\npre a\nhalt\n", "pre a\nat a\nhalt\n",
		// Points without an instruction of their own.
		"point\n", "halt\npoint\n", "halt\npoint\nat a\n", "point\npoint\nhalt\n", "point\nat a\npoint\nhalt\n", "point\npoint\nat a\nhalt\n", "halt\npoint\npoint\nhalt\n", "pre a\npoint\n", "point\npre a\n", "pre a\n", "post a\n", "",
		// Lines that end too early or too late, and words.
		"halt", "pre a\nhalt", "point\nat a\nhalt", "\n", "\nhalt\n", "halt\n\n", "pre a\n\nhalt\n", "point\n\nhalt\n", "pre\nhalt\n", "pre \nhalt\n", "pre  a\nhalt\n", "pre a \nhalt\n", " pre a\nhalt\n", "pre a b\nhalt\n", "point \nhalt\n", "point a\nhalt\n", " point\nhalt\n", "points\nhalt\n", "point\nat\nhalt\n", "point\nat \nhalt\n", "point\nat  a\nhalt\n", "point\nat a \nhalt\n", "point at a\nhalt\n",
		"pre a\r\nhalt\n", "PRE a\nhalt\n", "prea\nhalt\n", "post  a\nhalt\n", "push  1\nhalt\n", "push 1 \nhalt\n", "nop\n", "inv a\nhalt\n", "pre a;halt\n", "pre a\x00\nhalt\n",
		// Terms and instructions that are not valid, or not as they are written.
		"pre e\nhalt\n", "post a+j\nhalt\n", "point\nat e\nhalt\n", "pre 1000001\nhalt\n", "pre 1a\nhalt\n", "pre b+a\nhalt\n", "pre +a\nhalt\n", "pre 0a\nhalt\n", "pre -0\nhalt\n", "point\nat 01\nhalt\n", "pre a+a\nhalt\n", "push 1000001\nhalt\n", "load 4\nhalt\n", "halt 0\n", "jump 80\n",
		// Too many lines of a kind.
		strings.Repeat("pre a\n", 7) + "halt\n", strings.Repeat("post a\n", 7) + "halt\n", "point\n" + strings.Repeat("at a\n", 7) + "halt\n", strings.Repeat("point\nhalt\n", 9), strings.Repeat("halt\n", 81), strings.Repeat("halt\n", 80) + "point\n", strings.Repeat("halt\n", 80) + "point\nhalt\n",
		strings.Repeat("point\n", 100000), strings.Repeat("pre a\n", 100000), strings.Repeat("point\nat a\n", 3000) + "halt\n", "point\n" + strings.Repeat("at a\n", 5000) + "halt\n", strings.Repeat("halt\n", 100000),
	}
	for _, text := range append(bad, oddStrings()...) {
		a, ok := impl.ReadAnnotated(text)
		fails(t, text[:min(len(text), 60)], a, ok)
	}
	for _, line := range badInstrTexts() {
		// A line that is a whole text of code with its newline is not bad here.
		if text := "point\n" + line + "\n"; !isAnnotatedText(text) {
			a, ok := impl.ReadAnnotated(text)
			fails(t, line, a, ok)
		}
	}
}

// annotatedGrammar has sections, but neither terms nor limits.
var annotatedGrammar = regexp.MustCompile(`^(pre \S+\n)*(post \S+\n)*((point\n(at \S+\n)*)?(push|load|store|add|scale|jump|test|get|put|emit|check|halt)( \S+)?\n)+$`)

// isAnnotatedText tells by a second grammar whether a text is that of annotated code.
func isAnnotatedText(text string) bool {
	if !annotatedGrammar.MatchString(text) {
		return false
	}
	var code, facts strings.Builder
	counts := map[string]int{}
	for line := range strings.Lines(text) {
		word, rest, _ := strings.Cut(strings.TrimSuffix(line, "\n"), " ")
		switch counts[word]++; word {
		case "point":
			counts["at"] = 0
		case "pre", "post", "at":
			if counts[word] > 6 || !isTermText(rest) || strings.ContainsAny(rest, "efghij") {
				return false
			}
			facts.WriteString(line)
		default:
			code.WriteString(line)
		}
	}
	return counts["point"] <= 8 && isCodeText(code.String())
}

// TestChangedTextsOfAnnotatedCode changes texts by one byte or one line, and requires what the second grammar tells.
func TestChangedTextsOfAnnotatedCode(t *testing.T) {
	read, tried := 0, 0
	for i, a := range manyAnnotated(90) {
		text, _ := impl.AnnotatedText(a)
		same(t, text, isAnnotatedText(text), true)
		var changed []string
		for at := i % 17; at < len(text); at += 17 {
			for _, letter := range []string{"", " ", "\n", "0", "1", "-", "+", "a", "e", "t"} {
				changed = append(changed, text[:at]+letter+text[at+1:], text[:at]+letter+text[at:])
			}
		}
		lines := strings.SplitAfter(strings.TrimSuffix(text, "\n"), "\n")
		lines[len(lines)-1] += "\n"
		for k := range lines {
			for _, line := range []string{"point\n", "at a\n", "pre b\n", "post c\n", "halt\n", ""} {
				changed = append(changed, strings.Join(lines[:k], "")+line+strings.Join(lines[k:], ""), strings.Join(lines[:k], "")+line+strings.Join(lines[k+1:], ""))
			}
		}
		for _, other := range changed {
			a, ok := impl.ReadAnnotated(other)
			tried++
			if ok != isAnnotatedText(other) {
				t.Fatalf("%t for %q", ok, other)
			}
			if !ok {
				fails(t, other, a, ok)
				continue
			}
			again, _ := impl.AnnotatedText(a)
			same(t, "read back", again, other)
			read++
		}
	}
	if read < 1000 || tried-read < 1000 {
		t.Errorf("%d of %d changed texts are read", read, tried)
	}
}
