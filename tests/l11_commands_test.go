package tests

import (
	"fmt"
	"math/rand/v2"
	"regexp"
	"slices"
	"strconv"
	"strings"
	"testing"

	"loop.example/g01105/impl"
)

func hexOf(s string) string {
	return fmt.Sprintf("%x", s)
}

// says requires the output of a line and the host after it.
func says(t *testing.T, h impl.Host, line, output string, want impl.Host) {
	t.Helper()
	after, said, ok := impl.HostCommand(h, line)
	same(t, shown(line), results(said, ok), results(output, true))
	same(t, shown(line), results(after), results(want))
	if script := line + "\n"; !strings.Contains(line, "\n") && len(script) <= 40000 {
		after, said, ok = impl.RunCommands(h, script)
		same(t, shown(script), results(after, said, ok), results(want, output+"\n", true))
	}
}

// changesNothing requires the output of lines that leave the host as it is.
func changesNothing(t *testing.T, h impl.Host, output string, lines ...string) {
	t.Helper()
	for _, line := range lines {
		says(t, h, line, output, h)
	}
}

// TestCommandsOfTheExample has the example of chapter 11 about commands.
func TestCommandsOfTheExample(t *testing.T) {
	for _, policy := range []string{everything, nothing, inTurn} {
		h := hostOf(policy, state())
		says(t, h, "set 1 7", "ok", hostOf(policy, state(0, 7)))
		changesNothing(t, hostOf(policy, state(0, 7)), "0 7 0 0", "vars")
		after, output, ok := impl.RunCommands(h, "set 1 7\nvars\n")
		same(t, "the example", results(after, output, ok), results(hostOf(policy, state(0, 7)), "ok\n0 7 0 0\n", true))
	}
}

func TestAdmitCommand(t *testing.T) {
	full := fullHost(t)
	for k, p := range full.Packages {
		hex := hexOf(bytesAgain(p))
		says(t, without(full, k), "admit "+hex, "ok", full)
		changesNothing(t, full, "no", "admit "+hex)
		changesNothing(t, without(full, (k+1)%6), "no", "admit "+hex)
	}
	h := without(full, 2)
	s := bytesAgain(full.Packages[2])
	hex := hexOf(s)
	upper := strings.ToUpper(hex)
	same(t, "letters", upper != hex, true)
	changesNothing(t, h, "no",
		// No hexadecimal digits, an odd number of them, or none.
		"admit "+upper, "admit ", "admit 0", "admit "+hex[1:], "admit "+hex[:len(hex)-1], "admit "+hex+"0", "admit g"+hex[1:], "admit "+hex[:len(hex)-1]+"x", "admit 0x"+hex, "admit zz", "admit -1", "admit 7", "admit \n", "admit "+hex+"\n", "admit "+hex+"\r", "admit \u0660\u0660", "admit "+strings.Repeat("0", 80002), "admit "+strings.Repeat("0", 1000001),
		// No package.
		"admit 00", "admit "+hex[2:], "admit "+hex[:len(hex)-2], "admit "+hex+"00", "admit 00"+hex, "admit "+hex+hex, "admit "+strings.Repeat("00", 40000), "admit "+hexOf("halt\n"),
	)
	for _, p := range []impl.Package{{Name: "g", Code: bare("jump 0")}, {Name: "g", Code: annotated(t, incCode)}, withProof(packed(t, "g", incCode), "c0,1", 0)} {
		changesNothing(t, h, "no", "admit "+hexOf(bytesAgain(p)))
	}
	h.Policy = policyOf("x,x,0,x")
	changesNothing(t, h, "no", "admit "+hexOf(bytesAgain(packed(t, "g", "emit 1;halt"))))
	h.Policy = policyOf("x,0,0,x")
	after, said, ok := impl.HostCommand(h, "admit "+hexOf(bytesAgain(packed(t, "g", "emit 1;halt"))))
	same(t, "allowed", results(said, ok), results("ok", true))
	isGoodHost(t, after, "b", "d", "g", "h", "j", "l")
	changesNothing(t, h, "what", "admit", "admit  "+hex, "admit "+hex+" ", " admit "+hex, "admit "+hex+" 1", "admit a b", "admit  ", "admit"+hex, "Admit "+hex, "admit\t"+hex, "admits "+hex)
}

func TestDropCommand(t *testing.T) {
	full := fullHost(t)
	for k, name := range sixNames {
		says(t, full, "drop "+name, "ok", without(full, k))
		changesNothing(t, without(full, k), "no", "drop "+name)
	}
	changesNothing(t, full, "no", "drop a", "drop c", "drop bb", "drop z", "drop ", "drop B", "drop 1", "drop b\n", "drop b\r", "drop -", "drop \u00e4", "drop abcdefghijk", "drop "+strings.Repeat("b", 100000))
	changesNothing(t, full, "what", "drop", "drop  ", "drop  b", " drop b", "drop b ", "drop b d", "drop b 1", "dropb", "DROP b", "drop\tb")
}

func TestSetCommand(t *testing.T) {
	full := fullHost(t)
	for v := range 4 {
		for _, n := range []int64{0, 1, -1, 10, 1e9, -1e9, 999999999} {
			want := sparedCopy(full)
			want.State.Vars[v] = n
			says(t, full, fmt.Sprint("set ", v, " ", n), "ok", want)
		}
	}
	changesNothing(t, full, "no", "set 4 1", "set -1 1", "set 1000000000 0", "set -1000000000 0", "set 8 8")
	changesNothing(t, full, "what",
		// Words that are no decimals, or too great for a number.
		"set a 1", "set 1 a", "set 01 1", "set 1 01", "set +1 1", "set 1 +1", "set -0 1", "set 1 -0", "set 1 1.0", "set 1 1e3", "set 1 0x1", "set 1 --1", "set 1 -", "set - 1", "set 1 1000000001", "set 1 -1000000001", "set 1000000001 1", "set 4 1000000001", "set 9223372036854775808 1", "set 1 9223372036854775808", "set 1 "+strings.Repeat("9", 1000), "set 1 \u0661", "set 1 1\n", "set 1 1\r", "set 1 1_0", "set a b",
		// Another number of words.
		"set", "set ", "set 1", "set 1 ", "set  1", "set  ", "set 1  1", "set  1 1", " set 1 1", "set 1 1 ", "set 1 1 1", "set  1 1 ", "set1 1", "set 11", "Set 1 1", "set\t1\t1", "set 1,1",
	)
}

func TestRunCommand(t *testing.T) {
	loop := packed(t, "loop", "pre a+1;post -a-1;point;at a+1;load 0;test 9;emit 1;emit 3;push -1;load 0;add;store 0;jump 0;halt")
	great := packed(t, "great", "emit 2;load 0;load 0;add;store 1;emit 0;halt")
	h := hostOf(everything, state(2, 5), great, packed(t, "halt", "halt"), loop)
	at := func(vars ...int64) impl.Host { return hostOf(everything, state(vars...), h.Packages...) }
	says(t, h, "run loop 30", "done 1 3 1 3 1 3", at(-1, 5))
	says(t, h, "run loop 2000", "done 1 3 1 3 1 3", at(-1, 5))
	says(t, h, "run loop 29", "fuel 1 3 1 3 1 3", at(-1, 5))
	says(t, h, "run loop 12", "fuel 1 3 1", at(1, 5))
	says(t, h, "run great 100", "done 2 0", at(2, 4))
	says(t, h, "run great 6", "fuel 2 0", at(2, 4))
	says(t, h, "run great 1", "fuel 2", h)
	says(t, at(500000001), "run great 100", "range 2", at(500000001))
	changesNothing(t, h, "done", "run halt 1", "run halt 2000")
	changesNothing(t, h, "fuel", "run halt 0", "run loop 0", "run great 0", "run loop 1", "run loop 2")
	changesNothing(t, h, "no",
		// No fuel, no package, and no number that RunPackage takes.
		"run loop -1", "run loop 2001", "run loop 1000000000", "run loop -1000000000", "run lop 10", "run  10", "run LOOP 10", "run 1 10", "run loop\n 10", "run - 10", "run abcdefghijk 10", "run loo 0", "run loopp 0",
	)
	changesNothing(t, at(-2), "no", "run loop 10", "run loop 0", "run loop -1", "run loop 2001")
	changesNothing(t, at(-2), "what", "run loop x")
	changesNothing(t, h, "what",
		"run loop x", "run loop 010", "run loop +1", "run loop -0", "run loop 1000000001", "run loop 1e3", "run loop 10\n", "run loop 10\r", "run loop loop", "run lop x", "run loop ", "run  ", "run 10 loop",
		"run", "run ", "run loop", "run 10", "run  loop 10", "run loop  10", "run loop 10 ", " run loop 10", "run loop 10 10", "run loop 10 x", "runloop 10", "run loop10", "Run loop 10", "run\tloop\t10",
	)
	changesNothing(t, hostOf(nothing, state()), "no", "run loop 10", "run halt 0")
}

func TestVarsAndCells(t *testing.T) {
	for _, h := range append(manyHosts(40), hostOf(nothing, state())) {
		shows := func(numbers []int64) string { return strings.Trim(fmt.Sprint(numbers), "[]") }
		changesNothing(t, h, shows(h.State.Vars), "vars")
		changesNothing(t, h, shows(h.State.Cells), "cells")
	}
	changesNothing(t, hostOf(nothing, impl.State{Vars: list(1e9, -1e9, 0, -1), Cells: list(1, 2, 3, -4, 5, 6, 1e9, -1e9)}), "1000000000 -1000000000 0 -1", "vars")
	changesNothing(t, hostOf(nothing, impl.State{Vars: list(1e9, -1e9, 0, -1), Cells: list(1, 2, 3, -4, 5, 6, 1e9, -1e9)}), "1 2 3 -4 5 6 1000000000 -1000000000", "cells")
	changesNothing(t, fullHost(t), "what", "vars ", " vars", "vars 1", "vars vars", "var", "varss", "Vars", "vars\n", "cells ", " cells", "cells 1", "cell", "cellss", "CELLS", "cells\n", "cells\t", "vars cells")
}

// TestOtherLines has lines that are no commands.
func TestOtherLines(t *testing.T) {
	changesNothing(t, fullHost(t), "what", "", " ", "  ", "fly", "what", "ok", "no", "done", "halt", "b", "push 1", "pre a", "\n", "\x00", "\xff", "admit\x00", "help", "quit", "0", "1 2", "# set 1 7", "set 1 7;vars", strings.Repeat(" ", 100000), strings.Repeat("a", 100000), strings.Repeat("set ", 10000))
	for _, line := range oddStrings() {
		changesNothing(t, fullHost(t), "what", line)
	}
}

var (
	setGrammar = regexp.MustCompile(`^set (0|-?[1-9]\d*) (0|-?[1-9]\d*)$`)
	runGrammar = regexp.MustCompile(`^run ([^ ]*) (0|-?[1-9]\d*)$`)
	oneGrammar = regexp.MustCompile(`^(admit|drop) ([^ ]*)$`)
)

// commandAgain carries out a line by another way: grammars, and the exported functions.
func commandAgain(h impl.Host, line string) (impl.Host, string) {
	isGreat := func(n int64, err error) bool { return err != nil || n > 1e9 || n < -1e9 }
	answer := func(after impl.Host, ok bool, output string) (impl.Host, string) {
		if !ok {
			return h, "no"
		}
		return after, output
	}
	if parts := setGrammar.FindStringSubmatch(line); parts != nil {
		v, one := strconv.ParseInt(parts[1], 10, 64)
		n, two := strconv.ParseInt(parts[2], 10, 64)
		if isGreat(v, one) || isGreat(n, two) {
			return h, "what"
		}
		after, ok := impl.SetVariable(h, v, n)
		return answer(after, ok, "ok")
	}
	if parts := runGrammar.FindStringSubmatch(line); parts != nil {
		fuel, err := strconv.ParseInt(parts[2], 10, 64)
		if isGreat(fuel, err) {
			return h, "what"
		}
		after, events, outcome, ok := impl.RunPackage(h, parts[1], fuel)
		output := strings.Fields("done fuel cell assert range stack")[outcome]
		for _, event := range events {
			output += fmt.Sprint(" ", event)
		}
		return answer(after, ok, output)
	}
	if parts := oneGrammar.FindStringSubmatch(line); parts != nil {
		if parts[1] == "drop" {
			after, ok := impl.DropPackage(h, parts[2])
			return answer(after, ok, "ok")
		}
		s, isHex := impl.ReadHex(parts[2])
		after, ok := impl.AdmitPackage(h, s)
		return answer(after, ok && isHex, "ok")
	}
	switch line {
	case "vars":
		return h, strings.Trim(fmt.Sprint(h.State.Vars), "[]")
	case "cells":
		return h, strings.Trim(fmt.Sprint(h.State.Cells), "[]")
	}
	return h, "what"
}

// manyLines returns lines from a fixed seed, commands more often than others.
func manyLines(random *rand.Rand, packages []impl.Package, count int) []string {
	numbers := append(slices.Repeat([]string{"0", "1", "2", "3", "-1", "7", "100"}, 4), "2000", "2001", "4", "1000000000", "-1000000000", "1000000001", "01", "x", "", "-5")
	number := func() string { return numbers[random.IntN(len(numbers))] }
	name := func() string { return packages[random.IntN(len(packages))].Name }
	var lines []string
	for range count {
		line := ""
		switch random.IntN(10) {
		case 0, 1:
			line = "set " + number() + " " + number()
		case 2, 3, 4:
			line = "run " + name() + " " + number()
		case 5, 6, 7:
			line = "admit " + hexOf(bytesAgain(packages[random.IntN(len(packages))]))
		case 8:
			line = "drop " + name()
		case 9:
			line = []string{"vars", "cells", "", "fly", "drop", "set 1"}[random.IntN(6)]
		}
		if at := random.IntN(len(line) + 1); random.IntN(12) == 0 {
			line = line[:at] + []string{" ", "x", "0", "-"}[random.IntN(4)] + line[at:]
		}
		if at := random.IntN(len(line) + 1); random.IntN(20) == 0 {
			line = line[:at]
		}
		lines = append(lines, line)
	}
	return lines
}

// TestScriptsAreLines runs scripts, and their lines one after another by two ways.
func TestScriptsAreLines(t *testing.T) {
	random := rand.New(rand.NewPCG(105, 106))
	packages := slices.DeleteFunc(append(handPackages(t), manyPackages(40)...), func(p impl.Package) bool { return len(bytesAgain(p)) > 300 })
	said := map[string]int{}
	for i, h := range manyHosts(120) {
		lines := manyLines(random, append(slices.Clone(h.Packages), packages[i%9:i%9+8]...), 40)
		now, want := h, ""
		for _, line := range lines {
			after, output := commandAgain(now, line)
			says(t, now, line, output, after)
			now, want = after, want+output+"\n"
			word, _, _ := strings.Cut(line, " ")
			said[word+" "+strings.Fields(output)[0]]++
		}
		script := strings.Join(lines, "\n") + "\n"
		after, output, ok := impl.RunCommands(h, script)
		if len(script) > 40000 {
			fails(t, "a long script", after, output, ok)
			continue
		}
		same(t, script, results(after, output, ok), results(now, want, true))
		same(t, "ValidHost", impl.ValidHost(after), true)
		// Two scripts do what both together do.
		k := random.IntN(len(lines) + 1)
		middle, first, one := impl.RunCommands(h, strings.Join(append(slices.Clone(lines[:k]), ""), "\n"))
		after, second, two := impl.RunCommands(middle, strings.Join(append(slices.Clone(lines[k:]), ""), "\n"))
		same(t, "two scripts", results(after, first+second, one && two), results(now, want, true))
	}
	for _, what := range []string{"admit ok", "admit no", "admit what", "drop ok", "drop no", "set ok", "set no", "set what", "run done", "run fuel", "run no", "run what"} {
		if said[what] < 15 {
			t.Errorf("%s: only %d", what, said[what])
		}
	}
}

// runs requires what a script puts out.
func runs(t *testing.T, h impl.Host, script, output string, want impl.Host) {
	t.Helper()
	after, said, ok := impl.RunCommands(h, script)
	same(t, shown(script), results(after, said, ok), results(want, output, true))
}

func TestRunCommands(t *testing.T) {
	h := hostOf("0,0,0,x", state(1))
	inc := packed(t, "inc", incCode)
	hex := hexOf(bytesAgain(inc))
	with := hostOf("0,0,0,x", state(1), inc)
	runs(t, h, "", "", h)
	runs(t, h, "\n", "what\n", h)
	runs(t, h, "\n\n\n", "what\nwhat\nwhat\n", h)
	runs(t, h, "vars\n", "1 0 0 0\n", h)
	runs(t, h, "\nvars\n\n", "what\n1 0 0 0\nwhat\n", h)
	runs(t, h, "vars\ncells\nvars\n", "1 0 0 0\n0 0 0 0 0 0 0 0\n1 0 0 0\n", h)
	runs(t, h, "drop inc\nrun inc 9\nset 4 0\nset 0 x\nadmit 00\nadmit\n", "no\nno\nno\nwhat\nno\nwhat\n", h)
	runs(t, h, "admit "+hex+"\n", "ok\n", with)
	runs(t, h, "admit "+hex+"\nadmit "+hex+"\ndrop inc\n", "ok\nno\nok\n", h)
	runs(t, h, "run inc 9\nadmit "+hex+"\nset 1 41\nrun inc 9\nvars\nset 1 -1\nrun inc 9\nvars\n", "no\nok\nok\ndone 2\n42 41 0 0\nok\nno\n42 -1 0 0\n", hostOf("0,0,0,x", state(42, -1), inc))
	runs(t, with, "set 0 5\nset 0 6\nset 0 5\ndrop inc\n", "ok\nok\nok\nok\n", hostOf("0,0,0,x", state(5)))
	// The longest scripts.
	runs(t, h, strings.Repeat("vars\n", 8000), strings.Repeat("1 0 0 0\n", 8000), h)
	runs(t, h, strings.Repeat("\n", 40000), strings.Repeat("what\n", 40000), h)
	runs(t, h, strings.Repeat(" ", 39999)+"\n", "what\n", h)
	endless := hostOf(everything, state(-1), packed(t, "a", "point;emit 1;jump 0"))
	runs(t, endless, strings.Repeat("run a 2000\n", 3600), strings.Repeat("fuel"+strings.Repeat(" 1", 1000)+"\n", 3600), endless)
	// LinesOf fails.
	for _, script := range []string{"vars", " ", "vars\ncells", "set 1 7\nvars", "\nvars", "vars\n ", "vars\r", "vars\n\x00", strings.Repeat("\n", 40001), strings.Repeat("vars\n", 8001), strings.Repeat("vars\n", 100000), strings.Repeat(" ", 40000) + "\n", strings.Repeat("a", 100000)} {
		after, output, ok := impl.RunCommands(h, script)
		fails(t, shown(script), after, output, ok)
	}
}
