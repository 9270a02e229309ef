package tests

import (
	"math"
	"math/rand/v2"
	"reflect"
	"slices"
	"strings"
	"testing"

	"loop.example/g01105/impl"
)

// arguments11 are arguments for every function of chapter 11.
type arguments11 struct {
	Package        impl.Package
	Name           string
	Code           impl.Annotated
	Number, Second int64
	Bytes          string
	Policy         impl.Policy
	Host           impl.Host
	Line, Script   string
}

// allOfChapter11 returns what every function of chapter 11 returns for arguments.
func allOfChapter11(x arguments11) [][]any {
	var all [][]any
	add := func(values ...any) { all = append(all, values) }
	add(impl.ValidPackage(x.Package))
	p, ok := impl.MakePackage(x.Name, x.Code, x.Number)
	add(p, ok)
	s, ok := impl.PackageBytes(x.Package)
	add(s, ok)
	p, ok = impl.ReadPackage(x.Bytes)
	add(p, ok)
	verdict, at, ok := impl.VerdictOf(x.Package, x.Policy)
	add(verdict, at, ok)
	add(impl.ValidHost(x.Host))
	h, ok := impl.AdmitPackage(x.Host, x.Bytes)
	add(h, ok)
	h, ok = impl.DropPackage(x.Host, x.Name)
	add(h, ok)
	h, ok = impl.SetVariable(x.Host, x.Number, x.Second)
	add(h, ok)
	h, events, outcome, ok := impl.RunPackage(x.Host, x.Name, x.Number)
	add(h, events, outcome, ok)
	h, said, ok := impl.HostCommand(x.Host, x.Line)
	add(h, said, ok)
	h, said, ok = impl.RunCommands(x.Host, x.Script)
	add(h, said, ok)
	return all
}

// parts11 are the arguments from which others are chosen.
type parts11 struct {
	packages []impl.Package
	names    []string
	codes    []impl.Annotated
	numbers  []int64
	bytes    []string
	policies []impl.Policy
	hosts    []impl.Host
	odd      []string
}

// sampled returns about so many of a list, without those that are too long.
func sampled[T any](list []T, count int) []T {
	var sample []T
	for k := 0; k < len(list); k += max(1, len(list)/count) {
		sample = append(sample, list[k])
	}
	return short(sample)
}

func someParts11(t *testing.T) parts11 {
	t.Helper()
	packages := append(handPackages(t), manyPackages(40)...)
	x := parts11{packages: packages, names: badNames()[:10], codes: append(codesToPack(40), sampled(badAnnotated(), 40)...), policies: append(manyPolicies(100), sampled(badPolicies(), 10)...), odd: short(oddStrings())}
	x.numbers = append(slices.Repeat([]int64{0, 1, 2, 3}, 20), append(oddArguments(), oddNumbers()...)...)
	x.hosts = append(manyHosts(200), sampled(badHosts(t), 30)...)
	for _, p := range packages {
		x.names = append(x.names, p.Name)
		s := bytesAgain(p)
		x.bytes = append(x.bytes, s, s, s[:len(s)/2])
	}
	x.bytes = append(x.bytes, x.odd...)
	x.packages = append(x.packages, sampled(badPackages(), 40)...)
	return x
}

func pick[T any](random *rand.Rand, list []T) T {
	return list[random.IntN(len(list))]
}

// someArguments11 returns arguments from a fixed seed, valid ones more often than others.
func someArguments11(t *testing.T, count int) []arguments11 {
	t.Helper()
	random := rand.New(rand.NewPCG(107, 108))
	x := someParts11(t)
	hand := handPackages(t)
	var all []arguments11
	for range count {
		a := arguments11{pick(random, x.packages), pick(random, x.names), pick(random, x.codes), pick(random, x.numbers), pick(random, x.numbers), pick(random, x.bytes), pick(random, x.policies), pick(random, x.hosts), "", pick(random, x.odd)}
		if len(a.Host.Packages) > 0 && random.IntN(2) == 0 {
			a.Name = pick(random, a.Host.Packages).Name
		}
		lines := manyLines(random, append(slices.Clone(a.Host.Packages), hand...), 4)
		a.Line = lines[0]
		if random.IntN(4) > 0 {
			a.Script = strings.Join(append(lines, ""), "\n")
		}
		all = append(all, a)
	}
	return all
}

func TestEveryFunctionOfChapter11(t *testing.T) {
	callEvery(t, someArguments11(t, 1200), allOfChapter11, 100)
}

// TestResultsHaveNoMemoryOfHosts has a host in all of whose parts the memory of results could be.
func TestResultsHaveNoMemoryOfHosts(t *testing.T) {
	h := fullHost(t)
	h.Packages[3] = packed(t, "h", handCodes()[4])
	h.Packages[4] = packed(t, "j", handCodes()[3])
	h = sparedCopy(h)
	before := wholeText(reflect.ValueOf(h))
	s := bytesAgain(packed(t, "z", incCode))
	for k, p := range h.Packages {
		for _, x := range []arguments11{
			{Package: p, Name: p.Name, Code: p.Code, Number: int64(k), Bytes: s, Policy: h.Policy, Host: h, Line: "set 0 1", Script: "set 1 1\nvars\n"}, {Package: p, Name: p.Name, Code: p.Code, Number: 60, Bytes: bytesAgain(p), Policy: h.Policy, Host: without(h, 0), Line: "run h 9", Script: "drop b\nrun d 10\n"}, {Package: p, Host: without(h, k), Bytes: bytesAgain(p), Line: "admit " + hexOf(bytesAgain(p)), Script: "admit " + hexOf(bytesAgain(p)) + "\n"},
		} {
			for i, call := range allOfChapter11(x) {
				same(t, "memory", sharesMemory(x, call), false)
				if i == 10 || i == 11 {
					same(t, "success", call[len(call)-1], true)
				}
				for _, result := range call {
					overwrite(reflect.ValueOf(result))
				}
			}
			same(t, "the host", wholeText(reflect.ValueOf(h)), before)
		}
	}
}

// TestLongArgumentsOfChapter11 calls each function with arguments that are much too long.
func TestLongArgumentsOfChapter11(t *testing.T) {
	long := repeated(math.MinInt64, 100000)
	node := impl.Node{Kind: impl.ProofClose, Multipliers: long}
	facts := factsOf(fact(math.MinInt64, long...), 1000)
	codes := []impl.Annotated{{Pre: facts, Post: facts, Code: alike(impl.Instr{Op: impl.OpHalt}, 100000)}, bare("halt"), {Code: instrs("halt"), Points: pointsAt(long...)}}
	for i, name := range []string{strings.Repeat("a", 1000000), "a", strings.Repeat("\xff", 1000000)} {
		proofs := [][][]impl.Node{slices.Repeat([][]impl.Node{nodesOf("c")}, 100000), {slices.Repeat([]impl.Node{node}, 1000)}, {{node}}}[i]
		p := impl.Package{Name: name, Code: codes[i], Proofs: proofs}
		h := impl.Host{Policy: rows(long), State: impl.State{Vars: long, Cells: long}, Packages: slices.Repeat([]impl.Package{p}, 100)}
		for _, x := range []arguments11{
			{p, name, codes[i], math.MaxInt64, math.MinInt64, strings.Repeat("\x80", 1000000), rows(long), h, strings.Repeat("vars ", 100000), strings.Repeat("vars\n", 100000)},
			{p, name, codes[i], math.MinInt64, math.MaxInt64, strings.Repeat("\x02a", 1000000), policyOf(everything), hostOf(everything, state(), h.Packages...), "admit " + strings.Repeat("00", 1000000), strings.Repeat("admit 00\n", 100000)},
		} {
			callsFail(t, allOfChapter11(x))
		}
	}
	// A good host carries out long lines, and refuses long scripts.
	x := arguments11{Host: fullHost(t), Line: "admit " + strings.Repeat("00", 1000000), Script: strings.Repeat("vars\n", 100000), Bytes: strings.Repeat("\x02a", 1000000), Name: strings.Repeat("b", 1000000), Number: math.MaxInt64}
	for i, call := range allOfChapter11(x) {
		same(t, "success", call[len(call)-1], i == 5 || i == 10)
	}
}

func TestNilAndEmptyOfChapter11(t *testing.T) {
	halt := packed(t, "halt", "halt")
	s := bytesAgain(packed(t, "inc", incCode))
	all := []arguments11{{}, {Package: impl.Package{Name: "a"}, Name: "a"}, {Host: impl.Host{Policy: rows(nil)}}}
	for _, h := range []impl.Host{hostOf(everything, state()), hostOf(inTurn, state(), halt), {}, hostOf(everything, impl.State{}), hostOf(everything, state(), halt, packed(t, "zero", "point;emit 1;jump 0"))} {
		for _, p := range []impl.Package{halt, {Name: "a", Code: bare("jump 0", 0), Proofs: [][]impl.Node{nil, {}}}, {Name: "a", Code: bare("halt"), Proofs: [][]impl.Node{{}}}, {Name: "a", Code: bare("halt"), Proofs: [][]impl.Node{nodesOf("c")}}} {
			all = append(all, arguments11{Package: p, Name: "halt", Code: p.Code, Number: 1, Bytes: s, Policy: h.Policy, Host: h, Line: "run halt 1", Script: "run zero 2\nvars\n"})
		}
	}
	callWithEmpty(t, all, allOfChapter11)
}

func TestSharedArgumentsOfChapter11(t *testing.T) {
	callTogether(t, someArguments11(t, 40), allOfChapter11)
}

func TestResultsOfChapter11AreNew(t *testing.T) {
	callAndOverwrite(t, someArguments11(t, 200), allOfChapter11)
}
