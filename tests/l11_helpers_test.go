package tests

import (
	"math"
	"math/rand/v2"
	"slices"
	"strings"
	"testing"

	"loop.example/g01105/impl"
)

// incCode adds 1 to the variable 1, which must be at least 0, and has the sum in the variable 0.
const incCode = "pre b;post a-1;load 1;push 1;add;store 0;emit 2;halt"

// handCodes are texts of code whose conditions are proved: by one node, by tightened facts, by a cut, on circles, with cells, or without need of a proof.
func handCodes() []string {
	return []string{
		"halt", incCode, "pre 2a-1;load 0;push -1;add;check;halt", "pre a+b-1;pre a-b;pre -a+c;pre -a-c+1;push -1;check;halt",
		"pre a+1;post -a-1;point;at a+1;load 0;test 8;emit 1;push -1;load 0;add;store 0;jump 0;halt",
		"push 3;get;store 0;load 0;test 7;load 0;check;halt", "pre a;pre -a+7;load 0;load 1;put;load 0;get;store 2;emit 3;halt",
		"load 0;test 10;push 7;load 0;scale -1;add;test 10;load 0;get;store 1;halt", "post a;load 0;test 3;halt;push 0;store 0;emit 1;halt",
	}
}

// packed returns the package of code with a text, all conditions of which are proved.
func packed(t *testing.T, name, text string) impl.Package {
	t.Helper()
	p, ok := impl.MakePackage(name, annotated(t, text), 60)
	if !ok {
		t.Fatalf("no package: %q", text)
	}
	return p
}

func handPackages(t *testing.T) []impl.Package {
	t.Helper()
	var list []impl.Package
	for i, text := range handCodes() {
		list = append(list, packed(t, strings.Repeat("hand", 2)[:1+i%8], text))
	}
	return list
}

// letters returns a name for a number, as its digits to the base 26.
func letters(n int) string {
	name := ""
	for ; n >= 26; n /= 26 {
		name = string(rune('a'+n%26)) + name
	}
	return string(rune('a'+n)) + name
}

// codesToPack returns annotated code from fixed seeds. The conditions of most of it can be proved.
func codesToPack(count int) []impl.Annotated {
	random := rand.New(rand.NewPCG(97, 98))
	return slices.Concat(slipped(random, guardedPrograms(3*count)), tameAnnotated(2*count), emittingAnnotated(count))
}

// manyPackages returns packages from fixed seeds, all of which are made of code and its proofs.
func manyPackages(count int) []impl.Package {
	var list []impl.Package
	for i, a := range codesToPack(count) {
		if p, ok := impl.MakePackage(letters(i*i*i), a, 60); ok {
			list = append(list, p)
		}
	}
	return list
}

func badNames() []string {
	return []string{"", "A", "aB", "abcdefghijk", strings.Repeat("a", 100000), "a ", " a", "a b", "1", "a1", "a-b", "_", "\n", "a\n", "\x00", "a\x00", "`", "{", "\u00e4", "\xff", "aaaaaaaaa\u00e4", "\u0430"}
}

// badPackages are no packages for any function that takes some.
func badPackages() []impl.Package {
	halt, proof := bare("halt"), nodesOf("c1")
	many := slices.Repeat([][]impl.Node{proof}, 61)
	list := []impl.Package{{}, {Name: "a"}, {Code: halt}, {Name: "a", Code: halt, Proofs: many}, {Name: "a", Code: halt, Proofs: slices.Repeat(many, 2000)}, {Name: "a", Code: halt, Proofs: make([][]impl.Node, 61)}}
	for _, name := range badNames() {
		list = append(list, impl.Package{Name: name, Code: halt}, impl.Package{Name: name, Code: halt, Proofs: many[:60]})
	}
	for _, code := range badAnnotated() {
		list = append(list, impl.Package{Name: "a", Code: code}, impl.Package{Name: "a", Code: code, Proofs: many[:1]})
	}
	for _, bad := range badProofs() {
		for _, count := range []int{1, 2, 3, 60} {
			for _, k := range []int{0, count / 2, count - 1} {
				proofs := slices.Clone(many[:count])
				proofs[k] = bad
				list = append(list, impl.Package{Name: "a", Code: halt, Proofs: proofs})
			}
		}
	}
	return list
}

// checkAgain returns the check number of a string by another way: each byte counts in b as often as there are bytes from it on.
func checkAgain(s string) int64 {
	a, b := int64(1), int64(len(s))
	for i := range len(s) {
		a += int64(s[i])
		b += int64(s[i]) * int64(len(s)-i)
	}
	return a%65521 + 65521*(b%65521)
}

// signed returns bytes with their check number behind them.
func signed(body string) string {
	return body + codeOf(checkAgain(body))
}

// pieces are the bytes of a package without its check number, in parts: each number, and each text behind the number that is its length.
type pieces []string

// The places of the name, the code, the number of proofs and the first proof.
const (
	namePiece  = 1
	codePiece  = 3
	countPiece = 4
	proofPiece = 6
)

// piecesOf returns the pieces of a package, valid or not.
func piecesOf(p impl.Package) pieces {
	x := pieces{}.withMore(p.Name).withMore(annotatedTextAgain(p.Code))
	x = append(x, codeOf(int64(len(p.Proofs))))
	for _, proof := range p.Proofs {
		x = x.withMore(textOfNodes(proof))
	}
	return x
}

// textPiece returns the code of a text.
func textPiece(text string) string {
	return codeOf(int64(len(text))) + text
}

// withMore returns the pieces with a text at the end.
func (x pieces) withMore(text string) pieces {
	return append(slices.Clone(x), codeOf(int64(len(text))), text)
}

// withText returns the pieces with another text at a place.
func (x pieces) withText(k int, text string) pieces {
	return x.with(k-1, codeOf(int64(len(text)))).with(k, text)
}

func (x pieces) with(k int, piece string) pieces {
	x = slices.Clone(x)
	x[k] = piece
	return x
}

func (x pieces) isNumber(k int) bool {
	return k <= countPiece && k%2 == 0 || k > countPiece && k%2 == 1
}

func (x pieces) body() string {
	return strings.Join(x, "")
}

func (x pieces) signed() string {
	return signed(x.body())
}

// bytesAgain returns the bytes of a package by another way, however many they are.
func bytesAgain(p impl.Package) string {
	return piecesOf(p).signed()
}

// verdictAgain returns the verdict on a package by other ways.
func verdictAgain(p impl.Package, policy impl.Policy) (int64, int64) {
	paths, conditions, _, ok := codePathsAgain(p.Code, codeStarts(p.Code)...)
	switch {
	case !ok:
		return impl.NoConditions, 0
	case len(p.Proofs) != len(conditions):
		return impl.WrongCount, int64(len(conditions))
	}
	for k, s := range conditions {
		if s.Goal.Const == 1e6 || len(flawsAgain(s, p.Proofs[k])) > 0 {
			return impl.WrongProof, int64(k)
		}
	}
	states, _ := statesAgain(policy, p.Code)
	if offence := offenceAgain(policy, paths, states); offence != nil {
		return impl.NotAllowed, offence[0]
	}
	return impl.FineCode, 0
}

// hasVerdict requires the verdict on a package.
func hasVerdict(t *testing.T, p impl.Package, policy impl.Policy, want, index int64) {
	t.Helper()
	verdict, at, ok := impl.VerdictOf(p, policy)
	same(t, shown(p), results(verdict, at, ok), results(want, index, true))
}

// mixedUp returns packages that differ a little from a package, in their proofs or in their code.
func mixedUp(random *rand.Rand, p impl.Package) []impl.Package {
	list := []impl.Package{p, {Name: p.Name, Code: p.Code}}
	withProofs := func(proofs [][]impl.Node) {
		list = append(list, impl.Package{Name: p.Name, Code: p.Code, Proofs: proofs})
	}
	count := len(p.Proofs)
	withProofs(append(slices.Clone(p.Proofs), nodesOf("c1")))
	if count > 0 {
		k, other := random.IntN(count), random.IntN(count)
		withProofs(slices.Delete(slices.Clone(p.Proofs), k, k+1))
		exchanged := slices.Clone(p.Proofs)
		exchanged[k], exchanged[other] = exchanged[other], exchanged[k]
		withProofs(exchanged)
		for _, changed := range changedNodes(p.Proofs[k]) {
			proofs := slices.Clone(p.Proofs)
			if proofs[k] = changed; impl.IsProof(changed) && random.IntN(4) == 0 {
				withProofs(proofs)
			}
		}
	}
	for k, x := range p.Code.Code {
		changed := sparedCopy(p)
		if changed.Code.Code[k].Arg = x.Arg + random.Int64N(3) - 1; random.IntN(3) == 0 && impl.ValidPackage(changed) {
			list = append(list, changed)
		}
	}
	return list
}

func hostOf(policy string, s impl.State, packages ...impl.Package) impl.Host {
	return impl.Host{Policy: policyOf(policy), State: s, Packages: packages}
}

// named returns a package with another name.
func named(p impl.Package, name string) impl.Package {
	p.Name = name
	return p
}

// alikeNamed returns packages that are the same but for their names.
func alikeNamed(p impl.Package, names ...string) []impl.Package {
	var list []impl.Package
	for _, name := range names {
		list = append(list, named(p, name))
	}
	return list
}

// manyHosts returns valid hosts from a fixed seed, with any number of packages.
func manyHosts(count int) []impl.Host {
	random := rand.New(rand.NewPCG(99, 100))
	packages := manyPackages(60)
	states := append(manyStates(), smallStates(20)...)
	var list []impl.Host
	for i := range count {
		h := hostOf(everything, states[random.IntN(len(states))])
		for len(h.Packages) < i%7 {
			h.Packages = append(h.Packages, packages[random.IntN(len(packages))])
			slices.SortFunc(h.Packages, func(p, q impl.Package) int { return strings.Compare(p.Name, q.Name) })
			h.Packages = slices.CompactFunc(h.Packages, func(p, q impl.Package) bool { return p.Name == q.Name })
		}
		if i%3 > 0 {
			h.Policy = randomPolicy(random, 1+random.Int64N(12), 3+random.IntN(3))
			for _, p := range h.Packages {
				h.Policy = repaired(random, h.Policy, p.Code)
			}
		}
		list = append(list, h)
	}
	return list
}

// badHosts are no hosts for any function that takes one.
func badHosts(t *testing.T) []impl.Host {
	t.Helper()
	halt, inc := packed(t, "halt", "halt"), packed(t, "inc", incCode)
	good := hostOf(everything, state(), halt, inc)
	list := []impl.Host{{}, {Policy: good.Policy}, {State: good.State}, {Packages: good.Packages}, {State: good.State, Packages: good.Packages}, {Policy: good.Policy, Packages: good.Packages}}
	for _, p := range badPolicies() {
		list = append(list, impl.Host{Policy: p, State: good.State, Packages: good.Packages}, impl.Host{Policy: p, State: good.State})
	}
	for _, s := range badStates() {
		list = append(list, impl.Host{Policy: good.Policy, State: s, Packages: good.Packages}, impl.Host{Policy: good.Policy, State: s})
	}
	add := func(policy string, packages ...impl.Package) {
		list = append(list, hostOf(policy, state(), packages...))
	}
	for _, p := range badPackages() {
		add(everything, p)
		add(everything, halt, p)
		add(everything, p, inc)
	}
	// Names.
	add(everything, alikeNamed(halt, "a", "b", "c", "d", "e", "f", "g")...)
	add(everything, slices.Repeat([]impl.Package{halt}, 100000)...)
	for _, names := range [][]string{{"a", "a"}, {"b", "a"}, {"aa", "a"}, {"ab", "aa"}, {"b", "aaaaaaaaaa"}, {"a", "b", "b"}, {"a", "a", "b"}, {"a", "c", "b"}, {"b", "c", "a"}, {"a", "b", "c", "d", "e", "e"}, {"a", "b", "c", "d", "f", "e"}, {"a", "b", "a"}} {
		add(everything, alikeNamed(halt, names...)...)
	}
	// Verdicts.
	unproved := inc
	unproved.Proofs = [][]impl.Node{nodesOf("c1,0")}
	for _, p := range []impl.Package{{Name: "b", Code: bare("jump 0")}, {Name: "b", Code: bare("add")}, {Name: "b", Code: inc.Code}, {Name: "b", Code: halt.Code, Proofs: inc.Proofs}, named(unproved, "b")} {
		add(everything, p)
		add(everything, named(halt, "a"), p)
		add(everything, p, named(halt, "c"))
	}
	add(nothing, inc)
	add(inTurn, halt, inc)
	add("0,0,x,0", inc, named(halt, "z"))
	return list
}

// isGoodHost requires that a host is valid and has some packages.
func isGoodHost(t *testing.T, h impl.Host, names ...string) {
	t.Helper()
	same(t, "ValidHost", impl.ValidHost(h), true)
	var got []string
	for _, p := range h.Packages {
		got = append(got, p.Name)
	}
	same(t, "names", results(got), results(names))
}

// oddArguments are numbers that are no variable, fuel or budget, or at their limits.
func oddArguments() []int64 {
	return []int64{-1, 0, 1, 3, 4, 5, 59, 60, 61, 1999, 2000, 2001, 1e9, 1e9 + 1, -1e9, -1e9 - 1, math.MaxInt64, math.MinInt64}
}
