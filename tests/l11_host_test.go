package tests

import (
	"fmt"
	"math"
	"slices"
	"strings"
	"testing"

	"loop.example/g01105/impl"
)

// sixNames are the names of a full host, from "aa" on.
var sixNames = []string{"b", "d", "f", "h", "j", "l"}

// fullHost returns a host with six packages, the one named "d" of which adds 1 as incCode does.
func fullHost(t *testing.T) impl.Host {
	t.Helper()
	packages := alikeNamed(packed(t, "b", "halt"), sixNames...)
	packages[1] = packed(t, "d", incCode)
	return hostOf(everything, state(1, 2, 3, 4), packages...)
}

// without returns a host without the package at a place.
func without(h impl.Host, k int) impl.Host {
	h.Packages = slices.Concat(h.Packages[:k], h.Packages[k+1:])
	return h
}

func TestValidHost(t *testing.T) {
	halt := packed(t, "a", "halt")
	for count := range 9 {
		names := []string{"a", "b", "c", "d", "e", "f", "g", "h"}[:count]
		same(t, "the number of packages", impl.ValidHost(hostOf(everything, state(), alikeNamed(halt, names...)...)), count <= 6)
	}
	for _, names := range [][]string{{"z"}, {"a", "b"}, {"a", "aa"}, {"a", "aa", "aaa", "ab"}, {"az", "b"}, {"aaaaaaaaaa", "b"}, {"y", "z", "zz", "zzzzzzzzzz"}} {
		isGoodHost(t, hostOf(everything, state(), alikeNamed(halt, names...)...), names...)
	}
	for _, s := range manyStates() {
		isGoodHost(t, hostOf(inTurn, s, halt), "a")
	}
	for _, p := range append(manyPolicies(100), limitPolicies()...) {
		isGoodHost(t, impl.Host{Policy: p, State: state(), Packages: alikeNamed(halt, "a", "b")}, "a", "b")
	}
	isGoodHost(t, fullHost(t), sixNames...)
	for _, h := range manyHosts(60) {
		same(t, shown(h), impl.ValidHost(h), true)
	}
	for i, h := range badHosts(t) {
		same(t, fmt.Sprint("bad host ", i), impl.ValidHost(h), false)
	}
	// Each verdict but FineCode, at each place.
	wrong := withProof(packed(t, "a", incCode), "c1,0", 0)
	for k := range 6 {
		for _, p := range []impl.Package{{Code: bare("jump 0")}, {Code: annotated(t, incCode)}, wrong, packed(t, "a", "emit 1;halt")} {
			h := fullHost(t)
			h.Policy = policyOf("0,x,0,0")
			h.Packages[k] = named(p, sixNames[k])
			same(t, shown(p), impl.ValidHost(h), false)
		}
	}
}

// TestBadHosts calls each function with what is no host.
func TestBadHosts(t *testing.T) {
	s := bytesAgain(packed(t, "z", "halt"))
	hex, _ := impl.HexOf(s)
	for _, h := range badHosts(t) {
		for _, got := range []func() (impl.Host, bool){
			func() (impl.Host, bool) { return impl.AdmitPackage(h, s) }, func() (impl.Host, bool) { return impl.DropPackage(h, "halt") }, func() (impl.Host, bool) { return impl.DropPackage(h, "a") }, func() (impl.Host, bool) { return impl.SetVariable(h, 0, 1) },
		} {
			after, ok := got()
			fails(t, "no host", after, ok)
		}
		for _, name := range []string{"halt", "inc", "a", "b"} {
			after, events, outcome, ok := impl.RunPackage(h, name, 10)
			fails(t, "no host", after, events, outcome, ok)
		}
		for _, line := range []string{"vars", "cells", "", "fly", "set 0 1", "drop halt", "run halt 1", "admit " + hex, "admit zz"} {
			after, output, ok := impl.HostCommand(h, line)
			fails(t, "no host", after, output, ok)
			after, output, ok = impl.RunCommands(h, line+"\n")
			fails(t, "no host", after, output, ok)
		}
		after, output, ok := impl.RunCommands(h, "")
		fails(t, "no host", after, output, ok)
	}
}

// isRefusedBy requires that a host does not admit bytes.
func isRefusedBy(t *testing.T, h impl.Host, what, s string) {
	t.Helper()
	after, ok := impl.AdmitPackage(h, s)
	fails(t, what, after, ok)
}

func TestAdmitPackage(t *testing.T) {
	full := fullHost(t)
	for k, p := range full.Packages {
		h := without(full, k)
		after, ok := impl.AdmitPackage(h, bytesAgain(p))
		same(t, "admitted at a place", results(after, ok), results(full, true))
		for _, other := range h.Packages {
			isRefusedBy(t, h, "a name that is there", bytesAgain(other))
			isRefusedBy(t, h, "a name that is there, with other code", bytesAgain(named(packed(t, "a", "emit 1;halt"), other.Name)))
		}
		isRefusedBy(t, full, "a full host", bytesAgain(p))
	}
	// Between any two names, at the first and at the last place.
	for k, name := range []string{"a", "c", "e", "g", "i", "k"} {
		h := without(full, 5)
		want := h
		want.Packages = slices.Insert(slices.Clone(h.Packages), min(k, 5), packed(t, name, handCodes()[k]))
		after, ok := impl.AdmitPackage(h, bytesAgain(packed(t, name, handCodes()[k])))
		same(t, "admitted between", results(after, ok), results(want, true))
		isRefusedBy(t, full, "a full host", bytesAgain(packed(t, name, "halt")))
	}
	for _, name := range []string{"ba", "dzzzzzzzzz", "bz", "aaaaaaaaaa", "zzzzzzzzzz", "ha"} {
		after, ok := impl.AdmitPackage(without(full, 5), bytesAgain(packed(t, name, "halt")))
		names := append(slices.Clone(sixNames[:5]), name)
		slices.Sort(names)
		same(t, name, ok, true)
		isGoodHost(t, after, names...)
	}
	h := hostOf(everything, state())
	var names []string
	for i, p := range handPackages(t)[:6] {
		p.Name = letters(i)
		names = append(names, p.Name)
		var ok bool
		h, ok = impl.AdmitPackage(h, bytesAgain(p))
		same(t, "one after another", ok, true)
		isGoodHost(t, h, names...)
	}
}

// TestRefusedPackages has bytes of no package, and of packages with each verdict but FineCode.
func TestRefusedPackages(t *testing.T) {
	inc := packed(t, "inc", incCode)
	for _, h := range []impl.Host{hostOf("0,0,x,0", state()), hostOf("0,0,x,0", state(), packed(t, "a", "halt"), packed(t, "z", "emit 0;halt"))} {
		for _, s := range append(oddStrings(), bytesAgain(inc)+"x", bytesAgain(inc)[1:], piecesOf(inc).body()) {
			isRefusedBy(t, h, "no package", s)
		}
		for _, p := range []impl.Package{{Name: "b", Code: bare("jump 0")}, {Name: "b", Code: inc.Code}, {Name: "b", Code: bare("halt"), Proofs: inc.Proofs}, withProof(inc, "c0,1", 0), inc, {Name: "b", Code: bare("add;halt"), Proofs: inc.Proofs}} {
			isRefusedBy(t, h, shown(p), bytesAgain(p))
		}
		// The event of this one is all for which it is refused.
		other := h
		other.Policy = policyOf(everything)
		after, ok := impl.AdmitPackage(other, bytesAgain(inc))
		same(t, "another policy", results(ok, impl.ValidHost(after)), results(true, true))
		after, ok = impl.AdmitPackage(h, bytesAgain(packed(t, "inc", "emit 1;halt")))
		same(t, "what is allowed", results(ok, len(after.Packages)), results(true, len(h.Packages)+1))
	}
}

func TestDropPackage(t *testing.T) {
	full := fullHost(t)
	for k, p := range full.Packages {
		after, ok := impl.DropPackage(full, p.Name)
		same(t, "dropped", results(after, ok), results(without(full, k), true))
		again, ok := impl.DropPackage(after, p.Name)
		fails(t, "dropped twice", again, ok)
		after, ok = impl.AdmitPackage(after, bytesAgain(p))
		same(t, "admitted again", results(after, ok), results(full, true))
	}
	alone := hostOf(inTurn, state(9), packed(t, "inc", "halt"))
	after, ok := impl.DropPackage(alone, "inc")
	same(t, "the only package", results(after, ok), results(hostOf(inTurn, state(9)), true))
	for _, h := range []impl.Host{full, alone, after} {
		for _, name := range append(badNames(), "a", "c", "m", "bb", "in", "incc", "Inc", "inc ") {
			got, ok := impl.DropPackage(h, name)
			fails(t, "a name that is not there", got, ok)
		}
	}
}

// TestAdmittedAndDropped has hosts that admit and drop a package, or drop and admit one, and are as before.
func TestAdmittedAndDropped(t *testing.T) {
	packages := append(handPackages(t), manyPackages(30)...)
	admitted, dropped := 0, 0
	for i, h := range manyHosts(150) {
		p := packages[(7*i)%len(packages)]
		if after, ok := impl.AdmitPackage(h, bytesAgain(p)); ok {
			same(t, "ValidHost", impl.ValidHost(after), true)
			same(t, "one more", len(after.Packages), len(h.Packages)+1)
			back, ok := impl.DropPackage(after, p.Name)
			same(t, "as before", results(back, ok), results(h, true))
			admitted++
		}
		for _, p := range h.Packages {
			after, ok := impl.DropPackage(h, p.Name)
			same(t, "dropped", ok, true)
			back, ok := impl.AdmitPackage(after, bytesAgain(p))
			same(t, "as before", results(back, ok), results(h, true))
			dropped++
		}
	}
	if admitted < 30 || dropped < 200 {
		t.Errorf("%d packages are admitted, %d dropped", admitted, dropped)
	}
}

func TestSetVariable(t *testing.T) {
	h := fullHost(t)
	for v := int64(0); v < 4; v++ {
		for _, n := range []int64{0, 1, -1, 7, 999999999, 1e9, -999999999, -1e9} {
			want := sparedCopy(h)
			want.State.Vars[v] = n
			after, ok := impl.SetVariable(h, v, n)
			same(t, "SetVariable", results(after, ok), results(want, true))
		}
		for _, n := range []int64{1e9 + 1, -1e9 - 1, 1e15, math.MaxInt64, math.MinInt64} {
			after, ok := impl.SetVariable(h, v, n)
			fails(t, "a number out of range", after, ok)
		}
	}
	for _, v := range []int64{-1, 4, 5, 8, 1 << 32, math.MaxInt64, math.MinInt64} {
		after, ok := impl.SetVariable(h, v, 0)
		fails(t, "no variable", after, ok)
	}
}

// isRunOf requires what RunPackage returns, and nothing else that changes.
func isRunOf(t *testing.T, h impl.Host, name string, fuel int64, want codeRun) {
	t.Helper()
	after, events, outcome, ok := impl.RunPackage(h, name, fuel)
	h.State = want.last
	same(t, fmt.Sprint(name, " ", fuel), results(after, events, outcome, ok), results(h, want.events, want.outcome, true))
	same(t, "ValidHost", impl.ValidHost(after), true)
}

// isNoRun requires that RunPackage fails.
func isNoRun(t *testing.T, h impl.Host, name string, fuel int64) {
	t.Helper()
	after, events, outcome, ok := impl.RunPackage(h, name, fuel)
	fails(t, fmt.Sprint(name, " ", fuel), after, events, outcome, ok)
}

// TestRunPackage has runs that end in each way in which runs of packages can: they never leave the cells, never fail an assertion, and never stop for the stack.
func TestRunPackage(t *testing.T) {
	loop := packed(t, "loop", "pre a+1;post -a-1;point;at a+1;load 0;test 9;emit 1;emit 3;push -1;load 0;add;store 0;jump 0;halt")
	great := packed(t, "great", "emit 2;load 0;load 0;add;store 1;emit 0;halt")
	wide := packed(t, "wide", "emit 1;push 1;load 2;load 2;add;put;halt")
	h := hostOf(everything, state(2, 5, 1, -7), great, packed(t, "inc", incCode), loop, wide)
	done := func(events []int64, vars ...int64) codeRun { return codeRun{last: state(vars...), events: events} }
	ends := func(outcome int64, events []int64, vars ...int64) codeRun {
		return codeRun{last: state(vars...), events: events, outcome: outcome}
	}
	isRunOf(t, h, "great", 7, done(list(2, 0), 2, 4, 1, -7))
	isRunOf(t, h, "great", 6, ends(impl.OutFuel, list(2, 0), 2, 4, 1, -7))
	isRunOf(t, h, "great", 5, ends(impl.OutFuel, list(2), 2, 4, 1, -7))
	isRunOf(t, h, "great", 0, ends(impl.OutFuel, nil, 2, 5, 1, -7))
	isRunOf(t, h, "inc", 2000, done(list(2), 6, 5, 1, -7))
	isRunOf(t, h, "inc", 6, done(list(2), 6, 5, 1, -7))
	isRunOf(t, h, "inc", 5, ends(impl.OutFuel, list(2), 6, 5, 1, -7))
	isRunOf(t, h, "inc", 4, ends(impl.OutFuel, nil, 6, 5, 1, -7))
	// Three rounds of nine steps, and a last test.
	isRunOf(t, h, "loop", 30, done(list(1, 3, 1, 3, 1, 3), -1, 5, 1, -7))
	isRunOf(t, h, "loop", 29, ends(impl.OutFuel, list(1, 3, 1, 3, 1, 3), -1, 5, 1, -7))
	isRunOf(t, h, "loop", 12, ends(impl.OutFuel, list(1, 3, 1), 1, 5, 1, -7))
	h.State = state(600000000, 5, 1001, -7)
	isRunOf(t, h, "great", 2000, ends(impl.OutRange, list(2), 600000000, 5, 1001, -7))
	isRunOf(t, h, "loop", 2000, ends(impl.OutFuel, slices.Repeat(list(1, 3), 222), 600000000-222, 5, 1001, -7))
	h.State = state(0, 0, 500000001, 0)
	isRunOf(t, h, "wide", 2000, ends(impl.OutRange, list(1), 0, 0, 500000001, 0))
	h.State = state(0, 0, 500000000, 0)
	isRunOf(t, h, "wide", 2000, codeRun{last: with(h.State, 1, 1e9), events: list(1)})
	for _, name := range []string{"great", "inc", "loop", "wide"} {
		for _, fuel := range []int64{-1, -2, 2001, 2002, math.MaxInt64, math.MinInt64} {
			isNoRun(t, h, name, fuel)
		}
	}
	for _, name := range append(badNames(), "a", "loo", "loopp", "halt", "lo op") {
		for _, fuel := range []int64{-1, 0, 100, 2000, 2001} {
			isNoRun(t, h, name, fuel)
		}
	}
}

// TestRunsWithGreatNumbers computes the greatest number that proved code can, which is too great for the stack.
func TestRunsWithGreatNumbers(t *testing.T) {
	text := "push 999999"
	for v := range 4 {
		text += fmt.Sprintf(";load %d;scale 1000000;add", v)
	}
	text += strings.Repeat(";push 7;get;scale 1000000;add", 6)
	p := packed(t, "p", text+";test 39;emit 0;halt")
	for _, c := range []struct {
		n       int64
		outcome int64
	}{{1e9, impl.OutRange}, {999999999, impl.OutDone}, {-1e9, impl.OutDone}} {
		s := with(state(repeated(c.n, 4)...), 7, c.n)
		h := hostOf(everything, s, p)
		r := codeRun{last: s, outcome: c.outcome}
		if c.n == 999999999 {
			r.events = list(0)
		}
		isRunOf(t, h, "p", 2000, r)
	}
}

// TestRunsNeedPre has states in which Pre holds, and states in which it does not.
func TestRunsNeedPre(t *testing.T) {
	p := packed(t, "pre", "pre a+b;pre -c;pre 2d-1;load 3;check;halt")
	for a := int64(-2); a <= 2; a++ {
		for c := int64(-1); c <= 1; c++ {
			for d := int64(-1); d <= 2; d++ {
				h := hostOf(nothing, state(a, -1, c, d), p)
				if a >= 1 && c <= 0 && d >= 1 {
					isRunOf(t, h, "pre", 2, codeRun{last: h.State, outcome: impl.OutFuel})
					isRunOf(t, h, "pre", 3, codeRun{last: h.State})
				} else {
					isNoRun(t, h, "pre", 3)
				}
			}
		}
	}
	never := packed(t, "never", "pre -1;emit 0;halt")
	always := packed(t, "always", "pre 0;pre 1000000;emit 0;halt")
	for _, s := range manyStates() {
		isNoRun(t, hostOf(everything, s, always, never), "never", 10)
		isRunOf(t, hostOf(everything, s, always, never), "always", 10, codeRun{last: s, events: list(0)})
	}
	// Exact numbers, however great.
	far := packed(t, "far", "pre 1000000a-1000000b-1000000;halt")
	for _, c := range []struct {
		a, b int64
		ok   bool
	}{{1e9, -1e9, true}, {-1e9, 1e9, false}, {1, 0, true}, {0, 0, false}, {1e9, 1e9, false}, {1e9, 999999999, true}} {
		if h := hostOf(nothing, state(c.a, c.b), far); c.ok {
			isRunOf(t, h, "far", 1, codeRun{last: h.State})
		} else {
			isNoRun(t, h, "far", 1)
		}
	}
}

// TestRunsOfHosts compares runs of packages with runs of their code.
func TestRunsOfHosts(t *testing.T) {
	counts := map[string]int{}
	for i, h := range manyHosts(200) {
		for k, p := range h.Packages {
			fuel := int64((i*31 + k*577) % 2001)
			if !allAtLeast0(p.Code.Pre, h.State.Vars) {
				isNoRun(t, h, p.Name, fuel)
				counts["Pre does not hold"]++
				continue
			}
			r := codeRunBy(p.Code.Code, h.State, fuel, stepOfCodeAgain)
			isRunOf(t, h, p.Name, fuel, r)
			if !isSafeCode(p.Code, r) || !isAllowed(h.Policy, r.events) {
				t.Fatalf("%s ends with %d from %s", shown(p), r.outcome, shown(h.State))
			}
			counts[[]string{"done", "fuel", "cell", "assert", "range", "stack"}[r.outcome]]++
			if len(r.events) > 2 {
				counts["events"]++
			}
		}
	}
	for what, least := range map[string]int{"Pre does not hold": 30, "done": 100, "fuel": 20, "range": 1, "events": 30} {
		if counts[what] < least {
			t.Errorf("%s: only %d", what, counts[what])
		}
	}
	same(t, "broken promises", counts["cell"]+counts["assert"]+counts["stack"], 0)
}

// TestPackagesShareTheState has a package that reads what another one has written.
func TestPackagesShareTheState(t *testing.T) {
	write := packed(t, "write", "push 5;load 0;put;emit 0;halt")
	fetch := packed(t, "fetch", "push 5;get;store 1;emit 1;halt")
	h := hostOf(everything, state(42), fetch, write)
	h, _, _, ok := impl.RunPackage(h, "write", 100)
	same(t, "write", ok, true)
	isRunOf(t, h, "fetch", 100, codeRun{last: with(state(42, 42), 5, 42), events: list(1)})
	// Each run of a package begins in the state 0 of the policy.
	h.Policy = policyOf("1,x,x,x/x,x,x,x")
	h = without(h, 0)
	for range 3 {
		var events []int64
		h, events, _, ok = impl.RunPackage(h, "write", 100)
		same(t, "again", results(events, ok), results(list(0), true))
	}
}
