package tests

import (
	"math/rand/v2"
	"regexp"
	"slices"
	"strings"
	"testing"

	"loop.example/g01105/impl"
)

// textOfLines returns the text with some lines.
func textOfLines(lines ...string) string {
	return strings.Join(append(slices.Clone(lines), ""), "\n")
}

// linesAgain returns the lines of a body by another way: on lists.
func linesAgain(body []impl.Stmt) []string {
	e, behind := body[0], behindOf(body)
	sum, _ := impl.TermText(e.Sum)
	index, _ := impl.TermText(e.Index)
	name := "abcd"[e.Var : e.Var+1]
	switch e.Kind {
	case impl.StmtSeq:
		return append(linesAgain(behind[0]), linesAgain(behind[1])...)
	case impl.StmtIf:
		return slices.Concat([]string{"if " + sum}, linesAgain(behind[0]), []string{"else"}, linesAgain(behind[1]), []string{"end"})
	case impl.StmtWhile:
		return slices.Concat([]string{"while " + sum}, termLines("inv ", e.Facts), []string{"do"}, linesAgain(behind[0]), []string{"end"})
	}
	return []string{map[int64]string{
		impl.StmtSkip: "skip", impl.StmtSet: "set " + name + " " + sum, impl.StmtGet: "get " + name + " " + index, impl.StmtPut: "put " + index + " " + sum,
		impl.StmtEmit: "emit " + impl.Decimal(e.Event), impl.StmtAssert: "assert " + sum,
	}[e.Kind]}
}

func termLines(before string, list []impl.Term) []string {
	var lines []string
	for _, x := range list {
		text, _ := impl.TermText(x)
		lines = append(lines, before+text)
	}
	return lines
}

func textAgain(p impl.Program) string {
	return textOfLines(slices.Concat(termLines("pre ", p.Pre), linesAgain(p.Body), termLines("post ", p.Post))...)
}

func TestProgramText(t *testing.T) {
	x := fact(-1, 2, 0, -1)
	cases := []struct {
		p    impl.Program
		text string
	}{
		{programOf(skip()), "skip\n"}, {programOf(set(0, fact(-1, 1))), "set a a-1\n"}, {programOf(set(3, fact(0))), "set d 0\n"}, {programOf(get(1, x)), "get b 2a-c-1\n"}, {programOf(put(x, alone(3, -7))), "put 2a-c-1 -7d\n"}, {programOf(emit(3)), "emit 3\n"}, {programOf(emit(0)), "emit 0\n"},
		{programOf(assert(x)), "assert 2a-c-1\n"}, {programOf(ifElse(x, skip(), emit(1))), "if 2a-c-1\nskip\nelse\nemit 1\nend\n"}, {programOf(while(x, skip())), "while 2a-c-1\ndo\nskip\nend\n"}, {programOf(while(alone(0, 1), set(0, fact(-1, 1)), fact(1, 1))), "while a\ninv a+1\ndo\nset a a-1\nend\n"},
		{programOf(while(fact(5), sequence(emit(1), emit(2)), alone(1, 1), fact(0), x)), "while 5\ninv b\ninv 0\ninv 2a-c-1\ndo\nemit 1\nemit 2\nend\n"}, {impl.Program{Pre: []impl.Term{x, fact(1)}, Body: both(both(skip(), emit(1)), emit(2)), Post: []impl.Term{fact(-1), x}}, "pre 2a-c-1\npre 1\nskip\nemit 1\nemit 2\npost -1\npost 2a-c-1\n"},
		{programOf(ifElse(x, both(skip(), while(x, ifElse(x, skip(), skip()))), both(emit(0), emit(1)))), "if 2a-c-1\nskip\nwhile 2a-c-1\ndo\nif 2a-c-1\nskip\nelse\nskip\nend\nend\nelse\nemit 0\nemit 1\nend\n"},
	}
	for _, c := range cases {
		text, ok := impl.ProgramText(c.p)
		same(t, "ProgramText", results(text, ok), results(c.text, true))
		normal, _ := impl.NormalBody(c.p.Body)
		p, ok := impl.ReadProgram(c.text)
		same(t, "ReadProgram", results(p, ok), results(impl.Program{Pre: c.p.Pre, Body: normal, Post: c.p.Post}, true))
		n, ok := impl.FirstBadLine(c.text)
		fails(t, c.text, n, ok)
	}
	for _, bad := range badPrograms() {
		text, ok := impl.ProgramText(bad)
		fails(t, shown(bad), text, ok)
	}
}

func TestProgramsAreReadBack(t *testing.T) {
	programs := manyPrograms(600)
	for _, body := range validBodies() {
		programs = append(programs, impl.Program{Pre: factsOf(fact(-1e6, repeated(-1e6, 4)...), 6), Body: body, Post: factsOf(alone(3, 1), 6)})
	}
	for _, p := range programs {
		text, ok := impl.ProgramText(p)
		same(t, "ProgramText", results(text, ok), results(textAgain(p), true))
		normal, _ := impl.NormalBody(p.Body)
		got, ok := impl.ReadProgram(text)
		same(t, text, results(got, ok), results(impl.Program{Pre: p.Pre, Body: normal, Post: p.Post}, true))
		n, ok := impl.FirstBadLine(text)
		fails(t, text, n, ok)
	}
}

func TestFirstBadLine(t *testing.T) {
	cases := []struct {
		text string
		n    int64
	}{
		{"if a\nelse\n", 2}, {"", 1}, {"\n", 1}, {"pre a\n", 2}, {"pre a\npre b\n", 3}, {"skip\npost a\nskip\n", 3}, {"while a\nskip\n", 2}, {"while a\ndo\nskip\n", 4}, {"skip\npre a\n", 2}, {"set e 1\n", 1}, {"set a e\n", 1}, {"if a\nskip\nend\n", 3}, {"post a\n", 1}, {"pre a\npost a\n", 2}, {"skip\npost a\npre a\n", 3}, {"skip\n\n", 2},
		{"\nskip\n", 1}, {"what\n", 1}, {"skip\nwhat\n", 2}, {"else\n", 1}, {"end\n", 1}, {"do\n", 1}, {"inv a\n", 1}, {"skip\nelse\n", 2}, {"skip\nend\n", 2}, {"skip\ndo\n", 2}, {"skip\ninv a\n", 2}, {"if a\n", 2}, {"if a\nskip\n", 3}, {"if a\nskip\nelse\n", 4}, {"if a\nskip\nelse\nskip\n", 5}, {"if a\nend\n", 2}, {"if a\nskip\nelse\nend\n", 4}, {"if a\nskip\nelse\nelse\n", 4},
		{"if a\nskip\nelse\nskip\nelse\n", 5}, {"if a\nskip\nelse\nskip\nend\nend\n", 6}, {"if a\nskip\nelse\nskip\nend\nelse\n", 6}, {"if a\ndo\n", 2}, {"if a\ninv a\n", 2}, {"if a\npre a\n", 2}, {"if a\nskip\npost a\n", 3}, {"while a\n", 2}, {"while a\ninv a\n", 3}, {"while a\ndo\n", 3}, {"while a\nend\n", 2}, {"while a\ndo\nend\n", 3}, {"while a\ndo\nskip\nelse\n", 4},
		{"while a\ndo\ninv a\n", 3}, {"while a\ndo\nskip\ninv a\n", 4}, {"while a\ninv a\nskip\n", 3}, {"while a\nwhile a\n", 2}, {"while a\ndo\ndo\n", 3}, {"while a\nelse\n", 2}, {"while a\npre a\n", 2}, {"while a\ndo\nskip\npost a\n", 4}, {"while a\ndo\nskip\nend\nend\n", 5}, {"while a\ndo\nskip\nend\ndo\n", 5}, {"if a\nwhile b\ndo\nskip\nelse\n", 5}, {"if a\nwhile b\ndo\nskip\nend\nend\n", 6},
		{"skip\nskip\nskip 1\nwhat\n", 3}, {"while k\nwhat\n", 1}, {"if a b\nskip\n", 1}, {"while a\ninv 01\nwhat\n", 2}, {"while a\ndo x\nwhat\n", 2}, {"if a\nskip\nelse x\nwhat\n", 3}, {"if a\nskip\nelse\nskip\nend x\n", 5}, {"skip\npost e\npost\n", 2}, {"pre e\npre\n", 1}, {"skip\npost a\npost\n", 3},
	}
	for _, c := range cases {
		n, ok := impl.FirstBadLine(c.text)
		same(t, c.text, results(n, ok), results(c.n, true))
		p, ok := impl.ReadProgram(c.text)
		fails(t, c.text, p, ok)
	}
	for _, text := range []string{"skip", "skip\nskip", "a", " ", "\nskip", "what", "pre a", strings.Repeat("skip\n", 8001), strings.Repeat("what\n", 8001), strings.Repeat("\n", 40001)} {
		n, ok := impl.FirstBadLine(text)
		fails(t, text[:min(len(text), 9)], n, ok)
		p, ok := impl.ReadProgram(text)
		fails(t, text[:min(len(text), 9)], p, ok)
	}
}

// badLines are lines that stand nowhere in the text of a program.
func badLines() []string {
	lines := []string{"", " ", "what", "skip ", " skip", "skip skip", "Skip", "SKIP", "skip\t", "\tskip", "skip\r", "ski", "skipp", "skip 0", "seq", "set", "set a", "set a b c", "set a b ", "set  a b", "set a  b", " set a b", "set ab b", "set a, b", "set 0 b", "set A b", "set ad b", "set abcd b", "set b+a 1", "set  1", "seta 1", "set a:=1",
		"get", "get a", "get a 1 2", "get e 1", "get 1 a", "get a  1", "put", "put a", "put a b c", "put a b ", "put  a b", "put a,b", "emit", "emit 4", "emit -1", "emit 00", "emit +1", "emit 01", "emit 1 ", "emit  1", "emit a", "emit 1 1", "emit 1000000001", "emit 4294967297", "emit -0", "emit 1.0",
		"assert", "assert a b", "assert a ", "assert", "if", "if a b", "if ", "if a ", "if  a", "else ", "else a", " else", "end ", "end end", " end", "while", "while ", "while a b", "while a do", "do ", "do a", "inv", "inv ", "inv a b", "inv  a", "pre", "pre ", "pre a b", "pre  a", "pre a ", "post", "post ", "post a b", "post a;", "a", "0", "=>a", "\x00", "\u00e4", "skip\u00a0", "\ufeffskip", "\xff"}
	for _, bad := range []string{"", "e", "j", "2e", "a+e", "k", "A", "+a", "1a", "b+a", "a+a", "0a", "-0", "01", "a+0", "1+a", "1000001", "-1000001", "1000001a", "a-", "a b", "a=>b", "9223372036854775808"} {
		for _, before := range []string{"set a ", "get d ", "put 0 ", "assert ", "if ", "while ", "inv ", "pre ", "post "} {
			lines = append(lines, before+bad)
		}
		lines = append(lines, "put "+bad+" 0")
	}
	return lines
}

// TestBadLines puts each bad line into all places of a program; only the lines with terms are right in some other place.
func TestBadLines(t *testing.T) {
	lines := []string{"pre a", "if a", "skip", "else", "while b", "inv 2", "do", "emit 1", "end", "end", "post b"}
	for _, bad := range badLines() {
		for k := range len(lines) + 1 {
			for _, text := range []string{textOfLines(slices.Insert(slices.Clone(lines), k, bad)...), textOfLines(append(slices.Clone(lines[:k]), bad)...)} {
				n, ok := impl.FirstBadLine(text)
				same(t, text, results(n, ok), results(int64(k+1), true))
				p, ok := impl.ReadProgram(text)
				fails(t, text, p, ok)
			}
		}
	}
}

// lineForms tell which letter stands for a line in formOf; the parts of a line in brackets are terms.
var lineForms = []struct {
	letter string
	form   *regexp.Regexp
}{
	{"p", regexp.MustCompile("^pre ([^ ]*)$")}, {"q", regexp.MustCompile("^post ([^ ]*)$")}, {"i", regexp.MustCompile("^if ([^ ]*)$")}, {"e", regexp.MustCompile("^else$")}, {"z", regexp.MustCompile("^end$")}, {"w", regexp.MustCompile("^while ([^ ]*)$")}, {"v", regexp.MustCompile("^inv ([^ ]*)$")}, {"d", regexp.MustCompile("^do$")},
	{"s", regexp.MustCompile("^skip$|^emit [0-3]$|^assert ([^ ]*)$|^set [a-d] ([^ ]*)$|^get [a-d] ([^ ]*)$|^put ([^ ]*) ([^ ]*)$")},
}

func letterOf(line string) string {
	for _, f := range lineForms {
		match := f.form.FindStringSubmatchIndex(line)
		good := match != nil
		for k := 2; k < len(match); k += 2 {
			if match[k] >= 0 {
				x := line[match[k]:match[k+1]]
				good = good && isTermText(x) && !strings.ContainsAny(x, "efghij")
			}
		}
		if good {
			return f.letter
		}
	}
	return "?"
}

var wholeStatement = regexp.MustCompile("is+es+z|wv*ds+z")

var (
	wholeForm = regexp.MustCompile("^p*s+q*$")
	// openForm is the form of what has statements that have not ended yet, from the outermost one to the innermost one.
	openForm = regexp.MustCompile("^p*(s|i(s+e)?|wv*d)*(wv*)?$")
)

// shrink replaces statements of several lines by short ones, from the inside to the outside.
func shrink(letters string) string {
	for {
		less := wholeStatement.ReplaceAllString(letters, "s")
		if less == letters {
			return letters
		}
		letters = less
	}
}

// badAgain returns the first bad line of a text by another way, on one letter for each line, or 0 if it has the form.
func badAgain(lines []string) int64 {
	letters := ""
	for k, line := range lines {
		letters = shrink(letters + letterOf(line))
		if !wholeForm.MatchString(letters) && !openForm.MatchString(letters) {
			return int64(k + 1)
		}
	}
	if !wholeForm.MatchString(letters) {
		return int64(len(lines) + 1)
	}
	return 0
}

// isSmall reports whether the lines of a text that has the form have no more statements and terms than a program may have.
func isSmall(lines []string) bool {
	count := map[string]int{}
	invariants := 0
	for _, line := range lines {
		letter := letterOf(line)
		count[letter]++
		if letter != "v" {
			invariants = 0
		} else if invariants++; invariants > 6 {
			return false
		}
	}
	// Each block of n parts has n - 1 StmtSeq.
	blocks := 1 + 2*count["i"] + count["w"]
	elements := 2*(count["s"]+count["i"]+count["w"]) - blocks
	return count["p"] <= 6 && count["q"] <= 6 && elements <= 30
}

// isReadAgain holds what is read of a text against its letters.
func isReadAgain(t *testing.T, lines []string) (bad int64) {
	t.Helper()
	text := textOfLines(lines...)
	n, found := impl.FirstBadLine(text)
	p, ok := impl.ReadProgram(text)
	bad = badAgain(lines)
	if n != bad || found != (bad > 0) {
		t.Errorf("FirstBadLine(%q) is %d, %v, not %d", text, n, found, bad)
	}
	if bad > 0 || !isSmall(lines) {
		fails(t, text, p, ok)
		return bad
	}
	normal, _ := impl.NormalBody(p.Body)
	back, _ := impl.ProgramText(p)
	if !ok || back != text {
		t.Errorf("%q is not read", text)
	}
	same(t, text, results(p.Body), results(normal))
	return bad
}

// TestOrdersOfLines tries all texts with few lines.
func TestOrdersOfLines(t *testing.T) {
	texts, found := [][]string{nil}, map[int64]int{}
	for range 6 {
		var longer [][]string
		for _, lines := range texts {
			bad := isReadAgain(t, lines)
			found[bad]++
			// A text behind a bad line tells nothing new, but for one line.
			if bad > 0 && bad < int64(len(lines)) {
				continue
			}
			for _, line := range []string{"pre a", "post b+1", "if c", "else", "end", "while -d", "inv 7", "do", "skip", "set a b", "what"} {
				longer = append(longer, append(slices.Clone(lines), line))
			}
		}
		texts = longer
	}
	for bad := range int64(7) {
		if found[bad] < 10 && bad > 1 {
			t.Errorf("only %d texts have the first bad line %d", found[bad], bad)
		}
	}
}

// TestChangedTexts changes, leaves out, repeats and moves lines of the texts of programs.
func TestChangedTexts(t *testing.T) {
	random := rand.New(rand.NewPCG(15, 16))
	found := map[bool]int{}
	for _, p := range manyPrograms(300) {
		text, _ := impl.ProgramText(p)
		lines, _ := impl.LinesOf(text)
		for range 20 {
			k, other := random.IntN(len(lines)), lines[random.IntN(len(lines))]
			changed := [][]string{
				slices.Delete(slices.Clone(lines), k, k+1), slices.Insert(slices.Clone(lines), k, other), slices.Insert(slices.Clone(lines), k, lines[k]), lines[:k],
				slices.Replace(slices.Clone(lines), k, k+1, other), slices.Replace(slices.Clone(lines), k, k+1, lines[k]+" "), slices.Replace(slices.Clone(lines), k, k+1, strings.Replace(lines[k], "a", "e", 1)),
			}
			found[isReadAgain(t, changed[random.IntN(len(changed))]) > 0]++
		}
	}
	if found[true] < 500 || found[false] < 500 {
		t.Errorf("%d texts have the form, %d have not", found[false], found[true])
	}
}

// TestTextsWithTooMuch has texts that have the form of a program, but of one that is not valid, and the greatest ones that are.
func TestTextsWithTooMuch(t *testing.T) {
	many := func(line string, count int) []string { return slices.Repeat([]string{line}, count) }
	wrap := func(first []string, lines []string, last []string) []string { return slices.Concat(first, lines, last) }
	cases := []struct {
		lines []string
		valid bool
	}{
		{many("skip", 15), true}, {many("skip", 16), false}, {many("emit 1", 5000), false}, {append(many("pre a", 6), "skip"), true}, {append(many("pre a", 7), "skip"), false}, {append([]string{"skip"}, many("post a", 6)...), true}, {append([]string{"skip"}, many("post a", 7)...), false},
		{wrap(append([]string{"while a"}, many("inv a", 6)...), []string{"do", "skip"}, []string{"end"}), true}, {wrap(append([]string{"while a"}, many("inv a", 7)...), []string{"do", "skip"}, []string{"end"}), false}, {wrap([]string{"while a", "do"}, many("skip", 15), []string{"end"}), true}, {wrap([]string{"while a", "do"}, many("skip", 16), []string{"end"}), false},
		{wrap(wrap([]string{"if a"}, many("skip", 7), []string{"else"}), many("skip", 8), []string{"end"}), true}, {wrap(wrap([]string{"if a"}, many("skip", 8), []string{"else"}), many("skip", 8), []string{"end"}), false}, {slices.Concat(many("pre 0", 1000), many("skip", 100), many("post 0", 1000)), false},
		{slices.Concat(slices.Repeat([]string{"while a", "do"}, 29), []string{"skip"}, many("end", 29)), true}, {slices.Concat(slices.Repeat([]string{"while a", "do"}, 30), []string{"skip"}, many("end", 30)), false}, {slices.Concat(slices.Repeat([]string{"while a", "do"}, 2000), []string{"skip"}, many("end", 2000)), false},
		{slices.Concat(many("if a", 2000), []string{"skip"}, slices.Repeat([]string{"else", "skip", "end"}, 2000)), false}, {slices.Concat(many("if a", 14), []string{"skip"}, slices.Repeat([]string{"else", "skip", "end"}, 14)), true}, {slices.Concat(many("if a", 15), []string{"skip"}, slices.Repeat([]string{"else", "skip", "end"}, 15)), false},
	}
	for i, c := range cases {
		text := textOfLines(c.lines...)
		if len(text) < 1000 {
			same(t, "isSmall", isSmall(c.lines), c.valid)
		}
		n, found := impl.FirstBadLine(text)
		fails(t, text[:9], n, found)
		p, ok := impl.ReadProgram(text)
		same(t, "valid "+impl.Decimal(int64(i)), []bool{ok, impl.ValidProgram(p)}, []bool{c.valid, c.valid})
		if !ok {
			fails(t, text[:9], p, ok)
		}
	}
}

// TestLongTexts reads texts of exactly as many bytes as one can have, and of one more.
func TestLongTexts(t *testing.T) {
	for _, c := range []struct {
		line, last string
		bad        int64
	}{{"skip\n", "", 0}, {"skip\n", "skip\n", -1}, {"if a\n", "", 8001}, {"if a\n", "x", -1}, {"what\n", "", 1}, {"emit\n", "\n", -1}} {
		text := strings.Repeat(c.line, 8000) + c.last
		n, ok := impl.FirstBadLine(text)
		same(t, c.line, results(n, ok), results(max(c.bad, 0), c.bad > 0))
		p, ok := impl.ReadProgram(text)
		fails(t, c.line, p, ok)
	}
}
