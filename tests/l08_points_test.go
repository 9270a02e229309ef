package tests

import (
	"math"
	"math/rand/v2"
	"slices"
	"testing"

	"loop.example/g01105/impl"
)

func TestValidAnnotated(t *testing.T) {
	for _, a := range validAnnotated() {
		same(t, shown(a), impl.ValidAnnotated(a), true)
	}
	for _, a := range badAnnotated() {
		if impl.ValidAnnotated(a) {
			t.Errorf("valid: %s", shown(a.Points))
		}
	}
	for count := range 8 {
		facts := factsOf(fact(1, 1, 2, 3, -4), count)
		points := pointsAt(0, 2)
		points[1].Facts = facts
		for _, a := range []impl.Annotated{{Pre: facts, Code: instrs("halt")}, {Post: facts, Code: instrs("halt")}, {Code: instrs("halt;halt;halt"), Points: points}} {
			same(t, "facts", impl.ValidAnnotated(a), count <= 6)
		}
	}
	for count := range int64(12) {
		a := impl.Annotated{Code: instrs("halt;halt;halt;halt;halt;halt;halt;halt;halt;halt;halt;halt"), Points: pointsAt(counted(count)...)}
		same(t, "points", impl.ValidAnnotated(a), count <= 8)
	}
}

func TestHeightsOf(t *testing.T) {
	code := "push 1;store 0;halt;emit 1;halt"
	heights := list(0, 1, 0, -1, -1)
	for _, places := range [][]int64{nil, {0}, {2}, {3}, {0, 2}, {0, 2, 3, 4}} {
		got, ok := impl.HeightsOf(bare(code, places...))
		same(t, "HeightsOf", results(got, ok), results(heights, true))
	}
	for _, a := range []impl.Annotated{
		bare(code, 1), bare(code, 0, 1), bare(code, 1, 2), bare(code, 0, 1, 2, 3, 4), bare("push 1;push 2;add;halt", 2), bare("push 1;push 2;add;halt", 3), bare("push 1;push 1;push 1;push 1;push 1;push 1;halt", 6),
		// There are no heights, with points and without.
		bare("add;halt"), bare("add;halt", 1), bare("emit 1"), bare("emit 1", 0), bare("push 1;jump 0"), bare("push 1;jump 0", 0), bare("load 0;test 2;push 1;jump 2", 0), bare("jump 1", 0),
	} {
		same(t, "valid", impl.ValidAnnotated(a), true)
		got, ok := impl.HeightsOf(a)
		fails(t, shown(a), got, ok)
		longest, ok := impl.LongestWay(a)
		fails(t, shown(a), longest, ok)
		same(t, shown(a), codeExists(t, a)[:3], []bool{false, false, false})
	}
}

func TestOpenLoops(t *testing.T) {
	eight := "push 0;load 0;test 4;jump 0;load 1;test 0;jump 4;halt"
	cases := []struct {
		a    impl.Annotated
		want []int64
	}{
		{bare("jump 0"), list(0)}, {bare("jump 0", 0), nil}, {bare("halt"), nil}, {bare("emit 1"), nil}, {bare("jump 79"), nil}, {bare("load 0;test 1;halt"), list(1)}, {bare("load 0;test 1;halt", 1), nil}, {bare("load 0;test 1;halt", 0, 2), list(1)}, {bare("test 0"), list(0)},
		// A circle with a point anywhere on it, or beside it.
		{bare("jump 1;jump 2;jump 0"), list(0, 1, 2)}, {bare("jump 1;jump 2;jump 0", 0), nil}, {bare("jump 1;jump 2;jump 0", 1), nil}, {bare("jump 1;jump 2;jump 0", 2), nil}, {bare("emit 1;jump 2;jump 1;halt", 0, 3), list(1, 2)},
		// Ways to a circle and behind it do not lie on it.
		{bare("emit 0;emit 1;load 0;test 6;emit 2;jump 2;emit 3;halt"), list(2, 3, 4, 5)}, {bare("emit 0;load 0;test 5;emit 2;jump 1;emit 0;load 1;test 10;emit 3;jump 6;halt"), list(1, 2, 3, 4, 6, 7, 8, 9)}, {bare("emit 0;load 0;test 5;emit 2;jump 1;emit 0;load 1;test 10;emit 3;jump 6;halt", 8), list(1, 2, 3, 4)},
		// Circles that share instructions.
		{bare(eight), list(0, 1, 2, 3, 4, 5, 6)}, {bare(eight, 0), list(4, 5, 6)}, {bare(eight, 4), list(0, 1, 2, 3)}, {bare(eight, 0, 4), nil}, {bare(eight, 3), list(0, 1, 2, 4, 5, 6)}, {bare(eight, 3, 6), list(0, 1, 2, 4, 5)}, {bare(eight, 2), list(4, 5, 6)}, {bare(eight, 1, 6), nil}, {bare(eight, 3, 5), nil},
		{bare("load 0;test 0;load 1;test 1;jump 2"), list(0, 1, 2, 3, 4)}, {bare("load 0;test 0;load 1;test 1;jump 2", 1), list(2, 3, 4)}, {bare("load 0;test 0;load 1;test 1;jump 2", 2), list(0, 1)},
		// Circles that cannot be reached, and ways beyond the end.
		{bare("halt;jump 1"), list(1)}, {bare("halt;jump 1", 1), nil}, {bare("halt;jump 1", 0), list(1)}, {bare("halt;add;put;jump 1"), list(1, 2, 3)}, {bare("halt;emit 1;jump 0"), nil}, {bare("jump 3;emit 1;jump 1;halt", 0), list(1, 2)}, {bare("load 0;test 3;jump 0"), list(0, 1, 2)}, {bare("emit 1;test 0;emit 1"), list(0, 1)}, {bare("emit 1;jump 79;jump 0"), nil},
	}
	for _, c := range cases {
		got, ok := impl.OpenLoops(c.a)
		same(t, shown(c.a), results(got, ok), results(c.want, true))
		if len(c.want) > 0 {
			same(t, shown(c.a), slices.Contains(codeExists(t, c.a), true), false)
		}
	}
	// A circle of all instructions, with and without a point on the last one.
	ring := impl.Annotated{Code: alike(impl.Instr{Op: impl.OpEmit}, 80)}
	ring.Code[79] = impl.Instr{Op: impl.OpJump}
	got, ok := impl.OpenLoops(ring)
	same(t, "80 instructions", results(got, ok), results(counted(80), true))
	for _, place := range []int64{0, 40, 63, 64, 79} {
		ring.Points = pointsAt(place)
		got, ok := impl.OpenLoops(ring)
		same(t, "80 instructions", results(got, ok), results(list(), true))
	}
	back := impl.Annotated{Code: slices.Clone(ring.Code)}
	back.Code[79].Arg = 62
	got, ok = impl.OpenLoops(back)
	same(t, "18 instructions", results(got, ok), results(counted(80)[62:], true))
}

func TestLongestWay(t *testing.T) {
	cases := []struct {
		a    impl.Annotated
		want int64
	}{
		{bare("halt"), 1}, {bare("halt", 0), 1}, {bare("jump 0", 0), 1}, {bare("emit 1;halt"), 2}, {bare("emit 1;halt", 0), 2}, {bare("emit 1;halt", 1), 1}, {bare("emit 1;halt", 0, 1), 1},
		// Ways between points, from the entry, and to OpHalt.
		{bare("emit 1;emit 1;emit 1;emit 1;halt", 3), 3}, {bare("emit 1;emit 1;emit 1;emit 1;halt", 1), 4}, {bare("emit 1;emit 1;emit 1;emit 1;halt", 2), 3}, {bare("emit 1;emit 1;emit 1;emit 1;halt", 1, 4), 3}, {bare("emit 1;emit 1;emit 1;emit 1;halt", 0, 1, 2, 3, 4), 1},
		{bare("load 0;test 4;emit 1;jump 0;halt", 0), 4}, {bare("load 0;test 4;emit 1;jump 0;halt", 2), 5}, {bare("load 0;test 4;emit 1;jump 0;halt", 3), 4}, {bare("load 0;test 4;emit 1;jump 0;halt", 0, 2), 3}, {bare("emit 0;emit 0;load 0;test 6;emit 1;jump 2;halt", 2), 4}, {bare("emit 0;emit 0;load 0;test 6;emit 1;jump 2;halt", 4), 5},
		// Of two ways, the longer one, whichever comes first.
		{bare("load 0;test 5;emit 1;emit 1;halt;halt"), 5}, {bare("load 0;test 3;halt;emit 1;emit 1;emit 1;halt"), 6}, {bare("load 0;test 4;emit 1;emit 1;halt"), 5}, {bare("load 0;test 2;halt"), 3}, {bare("load 0;test 3;jump 4;halt;emit 1;emit 1;jump 3"), 7},
		// What cannot be reached does not count, with a circle, a point, or a place beyond the end.
		{bare("halt;emit 1;emit 1;emit 1;halt"), 1}, {bare("halt;emit 1;emit 1;emit 1;halt", 1), 1}, {bare("halt;jump 1"), 1}, {bare("jump 2;jump 1;halt"), 2}, {bare("halt;emit 1;emit 1"), 1}, {bare("halt;add;put;jump 79", 1, 3), 1}, {bare("jump 4;emit 1;emit 1;jump 4;halt"), 2},
	}
	for _, c := range cases {
		got, ok := impl.LongestWay(c.a)
		same(t, shown(c.a), results(got, ok), results(c.want, true))
	}
	for _, a := range []impl.Annotated{
		bare("jump 0"), bare("jump 1;jump 0"), bare("jump 1;jump 1", 0), bare("load 0;test 4;emit 1;jump 0;halt"), bare("load 0;test 4;emit 1;jump 0;halt", 4), bare("load 0;test 3;jump 2;halt", 0), bare("jump 2;halt;emit 1;jump 2", 0, 1),
		bare("push 0;load 0;test 1;halt"), bare("push 0;load 0;test 1;halt", 0), bare("push 0;load 0;test 1;halt", 0, 1),
	} {
		got, ok := impl.LongestWay(a)
		fails(t, shown(a), got, ok)
	}
	long := impl.Annotated{Code: alike(impl.Instr{Op: impl.OpEmit}, 80)}
	long.Code[79] = impl.Instr{Op: impl.OpHalt}
	for place := range int64(80) {
		long.Points = pointsAt(place)
		got, ok := impl.LongestWay(long)
		same(t, "80 instructions", results(got, ok), results(max(place, 80-place), true))
	}
	long.Points = nil
	got, ok := impl.LongestWay(long)
	same(t, "80 instructions", results(got, ok), results(int64(80), true))
}

// TestPointsOnOpenLoops puts a point at each instruction of the open loops, so that none is left.
func TestPointsOnOpenLoops(t *testing.T) {
	count := 0
	for _, a := range wildAnnotated(3000) {
		open, _ := impl.OpenLoops(a)
		if len(a.Points)+len(open) > 8 || len(open) == 0 {
			continue
		}
		for _, place := range open {
			more, ok := impl.AddPoint(a, impl.Point{At: place})
			if !ok {
				t.Fatalf("no point at %d of %s", place, shown(a))
			}
			a = more
		}
		open, ok := impl.OpenLoops(a)
		same(t, shown(a), results(open, ok), results(list(), true))
		count++
	}
	if count < 200 {
		t.Errorf("only %d codes have a few open loops", count)
	}
}

func TestAddPoint(t *testing.T) {
	facts := factsOf(fact(-1e6, 0, 0, 0, 1e6), 6)
	old := annotated(t, "pre a;post b;emit 0;emit 1;point;at c;emit 2;emit 3;point;emit 0;emit 1;halt")
	for place, want := range map[int64][]int64{0: {0, 2, 4}, 1: {1, 2, 4}, 3: {2, 3, 4}, 5: {2, 4, 5}, 6: {2, 4, 6}} {
		more, ok := impl.AddPoint(old, impl.Point{At: place, Facts: facts})
		wanted := impl.Annotated{Pre: old.Pre, Post: old.Post, Code: old.Code, Points: pointsAt(want...)}
		for i, at := range want {
			switch at {
			case place:
				wanted.Points[i].Facts = facts
			case 2:
				wanted.Points[i].Facts = old.Points[0].Facts
			}
		}
		same(t, "AddPoint", results(more, ok), results(wanted, true))
	}
	for _, place := range []int64{2, 4, -1, 7, 8, 79, 80, math.MinInt64, math.MaxInt64} {
		more, ok := impl.AddPoint(old, impl.Point{At: place})
		fails(t, "AddPoint", more, ok)
	}
	for _, bad := range badGiven() {
		more, ok := impl.AddPoint(old, impl.Point{At: 0, Facts: bad})
		fails(t, "AddPoint", more, ok)
	}
	many := impl.Annotated{Code: alike(impl.Instr{Op: impl.OpHalt}, 80)}
	for count, place := range []int64{40, 0, 79, 1, 78, 20, 60, 41} {
		more, ok := impl.AddPoint(many, impl.Point{At: place})
		same(t, "points", results(len(more.Points), ok), results(count+1, true))
		many = more
	}
	same(t, "points", results(many.Points), results(pointsAt(0, 1, 20, 40, 41, 60, 78, 79)))
	for _, place := range []int64{2, 30, 77} {
		more, ok := impl.AddPoint(many, impl.Point{At: place})
		fails(t, "a ninth point", more, ok)
	}
}

func TestDropPoint(t *testing.T) {
	old := annotated(t, "pre a;post b;point;at a;emit 0;emit 1;point;at b;at c;emit 2;point;halt")
	for k := range int64(3) {
		wanted := impl.Annotated{Pre: old.Pre, Post: old.Post, Code: old.Code}
		for i, p := range old.Points {
			if int64(i) != k {
				wanted.Points = append(wanted.Points, p)
			}
		}
		fewer, ok := impl.DropPoint(old, k)
		same(t, "DropPoint", results(fewer, ok), results(wanted, true))
	}
	for _, k := range []int64{-1, 3, 4, 8, math.MinInt64, math.MaxInt64} {
		fewer, ok := impl.DropPoint(old, k)
		fails(t, "DropPoint", fewer, ok)
	}
	none, ok := impl.DropPoint(bare("halt"), 0)
	fails(t, "no point", none, ok)
}

// TestPointsComeAndGo adds a point and drops it again, and drops one and adds it again.
func TestPointsComeAndGo(t *testing.T) {
	random := rand.New(rand.NewPCG(69, 70))
	added := 0
	for _, a := range slices.Concat(manyAnnotated(900), validAnnotated()) {
		place := random.Int64N(int64(len(a.Code)))
		more, ok := impl.AddPoint(a, impl.Point{At: place, Facts: tameTerms(random, 6)})
		same(t, "AddPoint", ok, len(a.Points) < 8 && pointAgain(a, place) < 0)
		if ok {
			added++
			back, ok := impl.DropPoint(more, pointAgain(more, place))
			same(t, "added and dropped", results(back, ok), results(a, true))
		}
		for k, p := range a.Points {
			fewer, ok := impl.DropPoint(a, int64(k))
			same(t, "points", results(len(fewer.Points), ok), results(len(a.Points)-1, true))
			back, ok := impl.AddPoint(fewer, p)
			same(t, "dropped and added", results(back, ok), results(a, true))
		}
	}
	if added < 500 {
		t.Errorf("only %d points are added", added)
	}
}

func TestBadArgumentsOfChapter8(t *testing.T) {
	for _, a := range badAnnotated() {
		heights, ok := impl.HeightsOf(a)
		fails(t, "HeightsOf", heights, ok)
		open, ok := impl.OpenLoops(a)
		fails(t, "OpenLoops", open, ok)
		longest, ok := impl.LongestWay(a)
		fails(t, "LongestWay", longest, ok)
		more, ok := impl.AddPoint(a, impl.Point{At: 2})
		fails(t, "AddPoint", more, ok)
		for k := range int64(3) {
			fewer, ok := impl.DropPoint(a, k)
			fails(t, "DropPoint", fewer, ok)
		}
		text, ok := impl.AnnotatedText(a)
		fails(t, "AnnotatedText", text, ok)
		if len(a.Points) < 10 {
			same(t, "conditions", slices.Contains(codeExists(t, a), true), false)
		}
	}
}
