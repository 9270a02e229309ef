package tests

import (
	"math/rand/v2"
	"slices"
	"strings"
	"testing"

	"loop.example/g01105/impl"
)

// pass is a function that changes annotated code, and the same function by another way.
type pass struct {
	name   string
	change func(impl.Annotated) (impl.Annotated, bool)
	again  func(links) links
}

func passes() []pass {
	return []pass{
		{"ThreadJumps", impl.ThreadJumps, links.threadedAgain}, {"DropUnreachable", impl.DropUnreachable, links.reachedAgain},
		{"FoldCode", impl.FoldCode, links.foldedAgain}, {"DropIdleJumps", impl.DropIdleJumps, links.busyAgain}, {"OptimiseCode", impl.OptimiseCode, links.optimisedAgain},
	}
}

// textOfCode returns the text of annotated code with semicolons in place of newlines, as annotated reads it.
func textOfCode(t *testing.T, a impl.Annotated) string {
	t.Helper()
	text, ok := impl.AnnotatedText(a)
	if !ok {
		t.Fatalf("no annotated code: %s", shown(a))
	}
	return strings.ReplaceAll(strings.TrimSuffix(text, "\n"), "\n", ";")
}

// becomes requires that a pass changes the annotated code with a text to that with another text.
func becomes(t *testing.T, change func(impl.Annotated) (impl.Annotated, bool), text, want string) {
	t.Helper()
	a, ok := change(annotated(t, text))
	if !ok {
		t.Errorf("%s: fails", text)
		return
	}
	same(t, text, textOfCode(t, a), want)
}

// stays requires that a pass does not change the annotated code with a text.
func stays(t *testing.T, change func(impl.Annotated) (impl.Annotated, bool), texts ...string) {
	t.Helper()
	for _, text := range texts {
		becomes(t, change, text, text)
	}
}

// piece is an instruction that knows the one at its place. If there is none, far tells how far this place is behind the last instruction.
type piece struct {
	instr impl.Instr
	to    *piece
	far   int64
	point *impl.Point
}

// links are code in which no place must be counted again when something is left out.
type links []*piece

func (p *piece) isLeading() bool {
	return isIn(p.instr.Op, impl.OpJump, impl.OpTest)
}

func linksOf(a impl.Annotated) links {
	var c links
	for _, x := range a.Code {
		c = append(c, &piece{instr: x})
	}
	for _, p := range c {
		if p.isLeading() && p.instr.Arg < int64(len(c)) {
			p.to = c[p.instr.Arg]
		} else if p.isLeading() {
			p.far = p.instr.Arg - int64(len(c))
		}
	}
	for i := range a.Points {
		c[a.Points[i].At].point = &a.Points[i]
	}
	return c
}

// annotated returns the code of links with the facts of other code.
func (c links) annotated(a impl.Annotated) impl.Annotated {
	a = impl.Annotated{Pre: a.Pre, Post: a.Post}
	for k, p := range c {
		x := p.instr
		if p.isLeading() {
			x.Arg = int64(len(c)) + p.far
		}
		if p.isLeading() && p.to != nil {
			x.Arg = int64(slices.Index(c, p.to))
		}
		a.Code = append(a.Code, x)
		if p.point != nil {
			a.Points = append(a.Points, impl.Point{At: int64(k), Facts: p.point.Facts})
		}
	}
	return a
}

// without leaves out a piece. What has led to it leads to the next one.
func (c links) without(k int) links {
	var next *piece
	if k+1 < len(c) {
		next = c[k+1]
	}
	for _, p := range c {
		if p.to == c[k] {
			p.to, p.far = next, 0
		}
	}
	return slices.Delete(slices.Clone(c), k, k+1)
}

// last returns the piece from which no jump follows, beginning with p itself, or p if there is none.
func (p *piece) last() *piece {
	seen := map[*piece]bool{}
	x := p
	for x.to != nil && x.to.instr.Op == impl.OpJump && x.to.point == nil {
		if seen[x.to] {
			return p
		}
		seen[x.to] = true
		x = x.to
	}
	return x
}

func (c links) threadedAgain() links {
	var threaded links
	for _, p := range c {
		threaded = append(threaded, &piece{p.instr, p.last().to, p.last().far, p.point})
	}
	for _, p := range threaded {
		// The pieces to which these lead are still those of the code as it was.
		if p.instr.Op == impl.OpJump && p.to != nil && p.to.instr.Op == impl.OpHalt && p.to.point == nil {
			p.instr, p.to = p.to.instr, nil
		}
	}
	for _, p := range threaded {
		if p.to != nil {
			p.to = threaded[slices.Index(c, p.to)]
		}
	}
	return threaded
}

func (c links) reachedAgain() links {
	seen := map[*piece]bool{}
	var visit func(k int)
	visit = func(k int) {
		if k >= len(c) || seen[c[k]] {
			return
		}
		seen[c[k]] = true
		if c[k].to != nil {
			visit(slices.Index(c, c[k].to))
		}
		if !isIn(c[k].instr.Op, impl.OpJump, impl.OpHalt) {
			visit(k + 1)
		}
	}
	visit(0)
	for k, p := range c {
		if p.point != nil {
			visit(k)
		}
	}
	for k := len(c) - 1; k >= 0; k-- {
		if !seen[c[k]] {
			c = c.without(k)
		}
	}
	return c
}

func (c links) busyAgain() links {
	for k := len(c) - 1; k >= 0; k-- {
		idle := c[k].instr.Op == impl.OpJump && c[k].point == nil && len(c) > 1
		if k+1 < len(c) {
			idle = idle && c[k].to == c[k+1]
		} else {
			idle = idle && c[k].to == nil && c[k].far == 0
		}
		if idle {
			c = c.without(k)
		}
	}
	return c
}

// foldAgain is a rule of FoldCode: operations, each of which is one of some, and what becomes of the instructions, if anything.
type foldAgain struct {
	ops  [][]int64
	made func(part []impl.Instr) []impl.Instr
}

func foldsAgain() []foldAgain {
	push, load, add, scale, get := []int64{impl.OpPush}, []int64{impl.OpLoad}, []int64{impl.OpAdd}, []int64{impl.OpScale}, []int64{impl.OpGet}
	within := func(op, n int64) []impl.Instr {
		if n < -1e6 || n > 1e6 {
			return nil
		}
		return []impl.Instr{{Op: op, Arg: n}}
	}
	// stay returns some of the instructions if one of them has a given Arg.
	stay := func(k int, arg int64, from, to int) func(part []impl.Instr) []impl.Instr {
		return func(part []impl.Instr) []impl.Instr {
			if part[k].Arg != arg {
				return nil
			}
			return slices.Clone(part[from:to])
		}
	}
	return []foldAgain{
		{[][]int64{push, scale}, func(part []impl.Instr) []impl.Instr { return within(impl.OpPush, part[0].Arg*part[1].Arg) }},
		{[][]int64{push, push, add}, func(part []impl.Instr) []impl.Instr { return within(impl.OpPush, part[0].Arg+part[1].Arg) }},
		{[][]int64{push, load, add}, stay(0, 0, 1, 2)},
		{[][]int64{push, load, scale, add}, stay(0, 0, 1, 3)},
		{[][]int64{slices.Concat(load, add, scale, get), push, add}, stay(1, 0, 0, 1)},
		{[][]int64{slices.Concat(load, add, get), scale}, stay(1, 1, 0, 1)},
		{[][]int64{scale, scale}, func(part []impl.Instr) []impl.Instr { return within(impl.OpScale, part[0].Arg*part[1].Arg) }},
	}
}

// at returns what a rule makes of the pieces from an index on, and how many these are.
func (f foldAgain) at(c links, k int) ([]impl.Instr, int) {
	if k+len(f.ops) > len(c) {
		return nil, 0
	}
	var part []impl.Instr
	for i, ops := range f.ops {
		p := c[k+i]
		led := slices.ContainsFunc(c, func(q *piece) bool { return q.to == p })
		if !isIn(p.instr.Op, ops...) || i > 0 && (led || p.point != nil) {
			return nil, 0
		}
		part = append(part, p.instr)
	}
	return f.made(part), len(f.ops)
}

// foldOnce applies the first rule at the least index.
func (c links) foldOnce() (links, bool) {
	for k := range c {
		for _, f := range foldsAgain() {
			made, count := f.at(c, k)
			if made == nil {
				continue
			}
			for i, x := range made {
				c[k+i].instr = x
			}
			for i := count - 1; i >= len(made); i-- {
				c = c.without(k + i)
			}
			return c, true
		}
	}
	return c, false
}

func (c links) foldedAgain() links {
	for more := true; more; {
		c, more = c.foldOnce()
	}
	return c
}

func (c links) optimisedAgain() links {
	for {
		before := c.annotated(impl.Annotated{}).Code
		c = c.threadedAgain().reachedAgain().foldedAgain().busyAgain()
		if slices.Equal(c.annotated(impl.Annotated{}).Code, before) {
			return c
		}
	}
}

// withRandomPoints returns annotated code with points anywhere, about one for each so many instructions.
func withRandomPoints(random *rand.Rand, code []impl.Instr, rarity int) impl.Annotated {
	a := impl.Annotated{Pre: tameTerms(random, 2), Post: tameTerms(random, 2), Code: code}
	for k := range code {
		if random.IntN(rarity) == 0 && len(a.Points) < 8 {
			a.Points = append(a.Points, impl.Point{At: int64(k), Facts: tameTerms(random, 2)})
		}
	}
	return a
}

// jumpCodes returns annotated code from a fixed seed most of which are jumps, also beyond the end.
func jumpCodes(count int) []impl.Annotated {
	random := rand.New(rand.NewPCG(79, 80))
	var list []impl.Annotated
	for i := range count {
		length := 1 + random.IntN(12)
		var code []impl.Instr
		for k := range length {
			x := impl.Instr{Op: impl.OpJump, Arg: min(79, random.Int64N(int64(length)+2))}
			switch random.IntN(8) {
			case 0:
				x.Arg = int64(k) + 1
			case 1:
				x = impl.Instr{Op: impl.OpHalt}
			case 2:
				x = impl.Instr{Op: impl.OpEmit, Arg: random.Int64N(4)}
			case 3, 4:
				x.Op = impl.OpTest
			}
			code = append(code, x)
		}
		list = append(list, withRandomPoints(random, code, 2+i%9))
	}
	return list
}

// sumCodes returns annotated code from a fixed seed most of which are computations that can be shorter.
func sumCodes(count int) []impl.Annotated {
	random := rand.New(rand.NewPCG(81, 82))
	numbers := append(repeated(0, 8), 1, 1, 1, 2, -1, 3, 1000, -1000, 1001, 1e6, -1e6, 999999)
	var list []impl.Annotated
	for i := range count {
		length := 1 + random.IntN(20)
		var code []impl.Instr
		for range length {
			x := impl.Instr{Op: []int64{impl.OpPush, impl.OpPush, impl.OpPush, impl.OpLoad, impl.OpLoad, impl.OpScale, impl.OpScale, impl.OpAdd, impl.OpAdd, impl.OpAdd, impl.OpGet}[random.IntN(11)]}
			switch x.Op {
			case impl.OpPush, impl.OpScale:
				x.Arg = numbers[random.IntN(len(numbers))]
			case impl.OpLoad:
				x.Arg = random.Int64N(4)
			}
			if random.IntN(16) == 0 {
				x = impl.Instr{Op: impl.OpTest - random.Int64N(2), Arg: random.Int64N(int64(length) + 1)}
			}
			code = append(code, x)
		}
		list = append(list, withRandomPoints(random, code, 4+20*(i%2)))
	}
	return list
}

// mixedCodes returns annotated code from a fixed seed with computations and, among them, jumps that can be left out.
func mixedCodes(count int) []impl.Annotated {
	random := rand.New(rand.NewPCG(83, 84))
	sums := instrs("push 0;push 3;load 0;load 1;add;add;scale 2;scale 1;get;halt")
	var list []impl.Annotated
	for range count {
		length := 2 + random.IntN(14)
		var code []impl.Instr
		for k := range int64(length) {
			x := sums[random.IntN(len(sums))]
			if random.IntN(3) == 0 {
				x = impl.Instr{Op: impl.OpJump, Arg: k + 1 + random.Int64N(2)*random.Int64N(4)}
			}
			if random.IntN(16) == 0 {
				x = impl.Instr{Op: impl.OpTest, Arg: random.Int64N(int64(length))}
			}
			code = append(code, x)
		}
		list = append(list, withRandomPoints(random, code, 15))
	}
	return list
}

// programsToCompile returns programs from fixed seeds, most of which have code that is not too long.
func programsToCompile(count int) []impl.Program {
	return slices.Concat(guardedPrograms(count), tamePrograms(2*count), manyPrograms(count), crowdedPrograms(count/2))
}

// codesToOptimise returns annotated code of programs, and other code.
func codesToOptimise(count int) []impl.Annotated {
	var list []impl.Annotated
	for _, p := range programsToCompile(count / 4) {
		if a := compiledAgain(p); impl.ValidAnnotated(a) {
			list = append(list, a)
		}
	}
	return slices.Concat(list, jumpCodes(count), sumCodes(count), mixedCodes(count), tameAnnotated(count), wildAnnotated(count))
}
