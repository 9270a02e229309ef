package tests

import (
	"fmt"
	"slices"
	"strings"
	"testing"

	"loop.example/g01105/impl"
)

// safety counts what becomes of bytes that have been changed.
type safety struct {
	policy impl.Policy
	states []impl.State
	counts map[string]int
}

// isSafeOrRefused requires that bytes are those of no package, of one that is refused, or of one whose runs are safe.
func (x safety) isSafeOrRefused(t *testing.T, what, s string) {
	t.Helper()
	p, ok := impl.ReadPackage(s)
	host := impl.Host{Policy: x.policy, State: state()}
	after, admitted := impl.AdmitPackage(host, s)
	if !ok {
		fails(t, what, p, ok)
		fails(t, what, after, admitted)
		x.counts["no package"]++
		return
	}
	again, _ := impl.PackageBytes(p)
	same(t, what, again, s)
	verdict, _, ok := impl.VerdictOf(p, x.policy)
	same(t, what, results(ok, admitted), results(true, verdict == impl.FineCode))
	x.counts[fmt.Sprint("verdict ", verdict)]++
	if admitted {
		x.runsAreSafe(t, what, after, p)
	}
}

// runsAreSafe runs an admitted package from all states in which its precondition holds.
func (x safety) runsAreSafe(t *testing.T, what string, h impl.Host, p impl.Package) {
	t.Helper()
	for _, s := range x.states {
		h.State = s
		after, events, outcome, ok := impl.RunPackage(h, p.Name, 300)
		same(t, what, ok, allAtLeast0(p.Code.Pre, s.Vars))
		if !ok {
			continue
		}
		if !isSafeCode(p.Code, codeRun{last: after.State, outcome: outcome}) || !isAllowed(x.policy, events) {
			t.Fatalf("%s: %s ends with %d from %s", what, shown(p), outcome, shown(s))
		}
		x.counts["safe runs"]++
	}
}

// changedAt returns strings that differ from one at an index: without its byte, with another one in its place, and with one more before it.
func changedAt(s string, at int) []string {
	var list []string
	if at < len(s) {
		list = append(list, s[:at]+s[at+1:])
	}
	for b := range 256 {
		part := string([]byte{byte(b)})
		if list = append(list, s[:at]+part+s[at:]); at < len(s) && s[at] != byte(b) {
			list = append(list, s[:at]+part+s[at+1:])
		}
	}
	return list
}

// smallest returns the packages with the fewest bytes of each number of conditions.
func smallest(list []impl.Package, most int) []impl.Package {
	best := make([]impl.Package, most+1)
	for _, p := range list {
		k := len(p.Proofs)
		if k <= most && (best[k].Name == "" || len(bytesAgain(p)) < len(bytesAgain(best[k]))) {
			best[k] = p
		}
	}
	return slices.DeleteFunc(best, func(p impl.Package) bool { return p.Name == "" })
}

// TestChangedBytes changes one byte of packages, leaves one out, or puts one in, everywhere.
func TestChangedBytes(t *testing.T) {
	x := safety{policyOf("0,1,0,x/0,x,0,x"), smallStates(6), map[string]int{}}
	for _, p := range append(handPackages(t), smallest(manyPackages(60), 6)...) {
		s := bytesAgain(p)
		for at := range len(s) + 1 {
			for _, changed := range changedAt(s, at) {
				x.isSafeOrRefused(t, fmt.Sprint("byte ", at), changed)
			}
		}
	}
	// The check number tells each of these changes.
	same(t, "what is read", len(x.counts), 1)
	if x.counts["no package"] < 100000 {
		t.Errorf("only %d changes", x.counts["no package"])
	}
}

// TestForgedBytes changes packages in the same ways, and puts the right check number behind them.
func TestForgedBytes(t *testing.T) {
	x := safety{policyOf("0,1,0,x/0,x,0,x"), append(smallStates(16), manyStates()[:4]...), map[string]int{}}
	for _, p := range append(handPackages(t), smallest(manyPackages(60), 3)...) {
		body := piecesOf(p).body()
		for at := range len(body) + 1 {
			for _, changed := range changedAt(body, at) {
				x.isSafeOrRefused(t, fmt.Sprint("byte ", at), signed(changed))
			}
		}
	}
	for what, least := range map[string]int{"no package": 100000, "verdict 0": 1000, "verdict 1": 10, "verdict 2": 1, "verdict 3": 1000, "verdict 4": 20, "safe runs": 3000} {
		if x.counts[what] < least {
			t.Errorf("%s: only %d", what, x.counts[what])
		}
	}
}

// TestForgedPackages changes proofs and instructions of packages, and packs them again.
func TestForgedPackages(t *testing.T) {
	x := safety{policyOf(everything), append(smallStates(7), manyStates()[1:4]...), map[string]int{}}
	packages := manyPackages(30)
	for i, p := range packages {
		for k, instr := range p.Code.Code {
			for _, by := range []int64{-1, 1, 7} {
				forged := sparedCopy(p)
				if forged.Code.Code[k].Arg = instr.Arg + by; impl.ValidPackage(forged) {
					x.isSafeOrRefused(t, "an instruction", bytesAgain(forged))
				}
			}
			forged := sparedCopy(p)
			forged.Code.Code = slices.Delete(forged.Code.Code, k, k+1)
			if impl.ValidPackage(forged) {
				x.isSafeOrRefused(t, "without an instruction", bytesAgain(forged))
			}
		}
		for k := range p.Code.Pre {
			forged := sparedCopy(p)
			forged.Code.Pre = slices.Delete(forged.Code.Pre, k, k+1)
			x.isSafeOrRefused(t, "without a fact", bytesAgain(forged))
		}
		// The proofs of other code.
		other := packages[(i+1)%len(packages)]
		x.isSafeOrRefused(t, "other proofs", bytesAgain(impl.Package{Name: "a", Code: p.Code, Proofs: other.Proofs}))
	}
	for what, least := range map[string]int{"verdict 0": 500, "verdict 1": 300, "verdict 2": 100, "verdict 3": 500, "safe runs": 5000} {
		if x.counts[what] < least {
			t.Errorf("%s: only %d", what, x.counts[what])
		}
	}
}

// delivered is a proved program on its way: compiled, packed, read back and admitted.
type delivered struct {
	program impl.Program
	host    impl.Host
	name    string
}

// deliver brings the code of a proved program to a host, and requires the conditions and proofs of the program all the way.
func deliver(t *testing.T, p impl.Program, code impl.Annotated, policy impl.Policy, proofs [][]impl.Node) delivered {
	t.Helper()
	what := shown(textAgain(p))
	made, ok := impl.MakePackage("sent", code, 60)
	same(t, what, results(made, ok), results(impl.Package{Name: "sent", Code: code, Proofs: proofs}, true))
	s, ok := impl.PackageBytes(made)
	same(t, what, ok, true)
	read, ok := impl.ReadPackage(s)
	same(t, what, results(read, ok), results(made, true))
	hasVerdict(t, read, policy, impl.FineCode, 0)
	h, ok := impl.AdmitPackage(impl.Host{Policy: policy, State: state()}, s)
	same(t, what, results(h.Packages, ok), results([]impl.Package{made}, true))
	wanted, one := impl.ConditionsOfProgram(p)
	conditions, two := impl.ConditionsOfCode(h.Packages[0].Code)
	same(t, what, results(conditions, two), results(wanted, one))
	same(t, what, impl.AreProved(wanted, h.Packages[0].Proofs), true)
	return delivered{p, h, "sent"}
}

// run runs the delivered program from a state, by commands that set the variables, and requires that it is safe and does what the program does.
func (d delivered) run(t *testing.T, s impl.State, counts map[string]int) {
	t.Helper()
	what := shown(textAgain(d.program)) + shown(s)
	d.host.State = impl.State{Vars: repeated(0, 4), Cells: s.Cells}
	script := ""
	for v, n := range s.Vars {
		script += fmt.Sprintf("set %d %d\n", v, n)
	}
	h, output, ok := impl.RunCommands(d.host, script+fmt.Sprintf("run %s 2000\n", d.name))
	same(t, what, ok, true)
	said := strings.Fields(strings.TrimPrefix(output, strings.Repeat("ok\n", 4)))
	if !allAtLeast0(d.program.Pre, s.Vars) {
		same(t, what, results(said, h.State), results([]string{"no"}, s))
		counts["Pre does not hold"]++
		return
	}
	r := runOf(t, d.program, s, 2000)
	counts[said[0]]++
	switch said[0] {
	case "done":
		same(t, what, allAtLeast0(d.program.Post, h.State.Vars), true)
		if len(d.program.Post) > 0 {
			counts["post"]++
		}
	case "fuel", "range":
	default:
		t.Fatalf("%s ends with %s", what, output)
	}
	if said[0] == "fuel" || r.outcome == impl.OutFuel {
		return
	}
	want := []string{map[int64]string{impl.OutDone: "done", impl.OutRange: "range"}[r.outcome]}
	for _, event := range r.events {
		want = append(want, fmt.Sprint(event))
	}
	same(t, what, results(said, h.State), results(want, r.last))
}

// TestProvedProgramsAreDelivered compiles, packs, reads, admits and runs programs whose conditions are proved, as they are and optimised.
func TestProvedProgramsAreDelivered(t *testing.T) {
	counts := map[string]int{}
	states := append(smallStates(14), manyStates()...)
	programs, codes := compiled(append(guardedPrograms(400), tamePrograms(300)...))
	for i, p := range programs {
		proofs, proved := impl.ProveProgram(p, 60)
		optimised, _ := impl.OptimiseCode(codes[i])
		for _, code := range []impl.Annotated{codes[i], optimised} {
			_, one := impl.ConditionsOfProgram(p)
			_, two := impl.ConditionsOfCode(code)
			if !proved || !two {
				made, ok := impl.MakePackage("sent", code, 60)
				if one == two {
					fails(t, shown(p), made, ok)
					counts["not proved"]++
				}
				continue
			}
			d := deliver(t, p, code, policyOf(everything), proofs)
			counts["delivered"]++
			if len(proofs) > 3 && len(code.Points) > 0 {
				counts["loops"]++
			}
			for k := range 6 {
				d.run(t, states[(i+5*k)%len(states)], counts)
			}
		}
	}
	for what, least := range map[string]int{"delivered": 300, "loops": 30, "not proved": 100, "done": 500, "fuel": 5, "range": 20, "post": 100, "Pre does not hold": 100} {
		if counts[what] < least {
			t.Errorf("%s: only %d", what, counts[what])
		}
	}
}

// TestProvedProgramsUnderPolicies admits programs under policies that allow them, and refuses them under others.
func TestProvedProgramsUnderPolicies(t *testing.T) {
	counts := map[string]int{}
	policies := manyPolicies(200)
	states := append(smallStates(14), manyStates()...)
	programs, codes := compiled(guardedPrograms(300))
	for i, p := range programs {
		proofs, proved := impl.ProveProgram(p, 60)
		policy := policies[i%len(policies)]
		allowed, ok := impl.Allows(policy, codes[i])
		if !proved || !ok {
			continue
		}
		if !allowed {
			made, _ := impl.MakePackage("sent", codes[i], 60)
			after, ok := impl.AdmitPackage(impl.Host{Policy: policy, State: state()}, bytesAgain(made))
			fails(t, shown(p), after, ok)
			counts["refused"]++
			continue
		}
		d := deliver(t, p, codes[i], policy, proofs)
		for _, s := range states {
			if !allAtLeast0(p.Pre, s.Vars) {
				continue
			}
			d.host.State = s
			_, events, _, ok := impl.RunPackage(d.host, d.name, 500)
			same(t, shown(p), results(ok, isAllowed(policy, events)), results(true, true))
			if len(events) > 1 {
				counts["events"]++
			}
		}
		counts["admitted"]++
	}
	for what, least := range map[string]int{"refused": 30, "admitted": 50, "events": 50} {
		if counts[what] < least {
			t.Errorf("%s: only %d", what, counts[what])
		}
	}
}

// TestDeliveredExample delivers the program of chapter 3, with a precondition and a postcondition.
func TestDeliveredExample(t *testing.T) {
	p := read(t, "pre a+1", "while a", "inv a+1", "do", "set a a-1", "emit 2", "end", "post a+1", "post -a-1")
	proofs, ok := impl.ProveProgram(p, 1)
	same(t, "proved", results(len(proofs), ok), results(4, true))
	code, ok := impl.CompileProgram(p)
	same(t, "compiled", ok, true)
	short, ok := impl.OptimiseCode(code)
	same(t, "shorter", results(len(short.Code) < len(code.Code), ok), results(true, true))
	for _, a := range []impl.Annotated{code, short} {
		d := deliver(t, p, a, policyOf("x,x,0,x"), proofs)
		counts := map[string]int{}
		for n := int64(-3); n < 100; n++ {
			d.run(t, state(n), counts)
		}
		same(t, "runs", results(counts["done"], counts["Pre does not hold"], counts["fuel"]), results(101, 2, 0))
	}
}
