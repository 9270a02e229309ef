package tests

import (
	"slices"
	"strings"
	"testing"

	"loop.example/g01105/impl"
)

// jumpsTo returns the text of as many OpJumps as there are, each to the next instruction, from a place on.
func jumpsTo(place, count int64) string {
	var text []string
	for k := range count {
		text = append(text, "jump "+impl.Decimal(place+k+1))
	}
	return strings.Join(text, ";")
}

func TestThreadJumps(t *testing.T) {
	thread := impl.ThreadJumps
	becomes(t, thread, "jump 2;halt;jump 1", "halt;halt;halt")
	// Over one, two and many OpJumps.
	becomes(t, thread, "jump 2;emit 1;jump 4;emit 2;emit 3;halt", "jump 4;emit 1;jump 4;emit 2;emit 3;halt")
	becomes(t, thread, "load 0;test 3;halt;jump 5;halt;emit 3;halt", "load 0;test 5;halt;jump 5;halt;emit 3;halt")
	becomes(t, thread, "jump 2;emit 1;jump 4;emit 2;jump 6;emit 3;emit 0", "jump 6;emit 1;jump 6;emit 2;jump 6;emit 3;emit 0")
	becomes(t, thread, "load 0;test 3;halt;jump 5;halt;jump 0", "load 0;test 0;halt;jump 0;halt;jump 0")
	becomes(t, thread, jumpsTo(0, 78)+";emit 1;halt", strings.Repeat("jump 78;", 78)+"emit 1;halt")
	becomes(t, thread, "load 0;test 2;"+jumpsTo(2, 76)+";emit 1;halt", "load 0;test 78;"+strings.Repeat("jump 78;", 76)+"emit 1;halt")
	becomes(t, thread, "emit 1;"+strings.Repeat("jump 0;", 78)+"jump 78", "emit 1;"+strings.Repeat("jump 0;", 79)[:7*79-1])
	// There is nothing to follow, or it is not an OpJump.
	stays(t, thread, "jump 1;emit 1;halt", "load 0;test 3;emit 1;load 1;test 0;halt", "emit 1;halt", "jump 2;halt;load 0;test 2")
}

func TestCirclesOfJumps(t *testing.T) {
	stays(t, impl.ThreadJumps, "jump 0", "jump 1;jump 0", "jump 1;jump 2;jump 1", "jump 1;jump 2;jump 0", "emit 1;jump 1", "emit 1;jump 2;jump 1", jumpsTo(0, 79)+";jump 0")
	// From outside, the first place stays, too.
	stays(t, impl.ThreadJumps, "jump 1;jump 1", "load 0;test 2;jump 2", "load 0;test 3;halt;jump 4;jump 5;jump 4", "jump 1;jump 2;jump 3;jump 3", "load 0;test 2;"+jumpsTo(2, 77)+";jump 40", "jump 2;halt;jump 3;jump 2")
	// A circle that a test leaves, or that does more, is none.
	becomes(t, impl.ThreadJumps, "jump 1;load 0;test 4;jump 1;jump 0", "jump 1;load 0;test 1;jump 1;jump 1")
	becomes(t, impl.ThreadJumps, "emit 1;jump 3;halt;jump 0", "emit 1;jump 0;halt;jump 0")
	// A point in a circle ends it.
	becomes(t, impl.ThreadJumps, "jump 1;jump 2;point;jump 1", "jump 2;jump 2;point;jump 2")
	becomes(t, impl.ThreadJumps, "jump 2;jump 2;point;jump 0", "jump 2;jump 2;point;jump 2")
	becomes(t, impl.ThreadJumps, "point;jump 1;jump 2;point;jump 1", "point;jump 2;jump 2;point;jump 2")
	stays(t, impl.ThreadJumps, "point;jump 0", "load 0;test 2;point;jump 2", "point;jump 1;point;jump 2;point;jump 1")
}

func TestThreadJumpsAtPoints(t *testing.T) {
	thread := impl.ThreadJumps
	becomes(t, thread, "jump 2;emit 1;point;at a;jump 4;emit 2;jump 5;emit 3;halt", "jump 2;emit 1;point;at a;jump 5;emit 2;jump 5;emit 3;halt")
	becomes(t, thread, "load 0;test 3;halt;jump 5;halt;point;jump 7;halt;emit 1", "load 0;test 5;halt;jump 5;halt;point;jump 7;halt;emit 1")
	// OpHalt takes the place of OpJump, unless there is a point at its place; it keeps its own.
	becomes(t, thread, "jump 1;halt", "halt;halt")
	becomes(t, thread, "point;at a;jump 1;halt", "point;at a;halt;halt")
	becomes(t, thread, "jump 2;halt;jump 3;halt", "halt;halt;halt;halt")
	becomes(t, thread, "emit 1;jump 3;halt;jump 2", "emit 1;halt;halt;halt")
	becomes(t, thread, "jump 2;emit 1;jump 4;emit 2;point;halt", "jump 4;emit 1;jump 4;emit 2;point;halt")
	becomes(t, thread, "jump 1;point;jump 2;halt", "jump 1;point;halt;halt")
	stays(t, thread, "jump 1;point;halt", "point;jump 1;point;at b;halt", "halt;jump 2;point;halt")
	// OpTest stays OpTest.
	stays(t, thread, "load 0;test 2;halt", "load 0;test 2;point;halt", "load 0;test 0;halt")
	becomes(t, thread, "load 0;test 3;emit 1;jump 4;halt", "load 0;test 4;emit 1;halt;halt")
	becomes(t, thread, "load 0;test 3;emit 1;jump 4;point;halt", "load 0;test 4;emit 1;jump 4;point;halt")
}

func TestThreadJumpsBeyondTheEnd(t *testing.T) {
	stays(t, impl.ThreadJumps, "jump 1", "jump 79", "load 0;test 2", "load 0;test 79", "halt;jump 2")
	becomes(t, impl.ThreadJumps, "jump 1;jump 2", "jump 2;jump 2")
	becomes(t, impl.ThreadJumps, "load 0;test 2;jump 79", "load 0;test 79;jump 79")
	becomes(t, impl.ThreadJumps, "jump 2;halt;jump 3;halt;halt;jump 6", "halt;halt;halt;halt;halt;jump 6")
	becomes(t, impl.ThreadJumps, "jump 5;jump 0;emit 1;jump 1", "jump 5;jump 5;emit 1;jump 5")
}

// TestThreadJumpsOfTheCodeAsItWas has OpJumps that become OpHalt, which other places pass nevertheless, before and behind them.
func TestThreadJumpsOfTheCodeAsItWas(t *testing.T) {
	becomes(t, impl.ThreadJumps, "jump 3;load 0;test 0;halt", "halt;load 0;test 3;halt")
	becomes(t, impl.ThreadJumps, "load 0;test 3;emit 1;jump 4;halt", "load 0;test 4;emit 1;halt;halt")
	becomes(t, impl.ThreadJumps, "load 0;test 6;load 1;test 5;halt;jump 4;jump 5", "load 0;test 4;load 1;test 4;halt;halt;halt")
	becomes(t, impl.ThreadJumps, "jump 5;load 0;test 0;load 1;test 0;point;halt", "jump 5;load 0;test 5;load 1;test 5;point;halt")
}

func TestDropUnreachable(t *testing.T) {
	drop := impl.DropUnreachable
	becomes(t, drop, "halt;halt;halt", "halt")
	becomes(t, drop, "emit 1;halt;emit 2;halt", "emit 1;halt")
	becomes(t, drop, "jump 2;emit 1;halt", "jump 1;halt")
	becomes(t, drop, "jump 3;emit 1;emit 2;halt;emit 3", "jump 1;halt")
	becomes(t, drop, "jump 0;halt", "jump 0")
	becomes(t, drop, "load 0;test 4;halt;emit 1;halt", "load 0;test 3;halt;halt")
	// What only a point reaches stays, also what is behind it.
	becomes(t, drop, "halt;emit 1;point;at a;emit 2;halt", "halt;point;at a;emit 2;halt")
	becomes(t, drop, "halt;emit 1;point;jump 4;emit 2;emit 3;halt", "halt;point;jump 2;emit 3;halt")
	becomes(t, drop, "halt;emit 1;point;load 0;test 6;halt;emit 2;emit 3;halt", "halt;point;load 0;test 4;halt;emit 3;halt")
	becomes(t, drop, "halt;point;jump 3;emit 1;point;jump 1;halt", "halt;point;jump 2;point;jump 1")
	stays(t, drop, "halt;point;halt", "point;halt;point;halt", "jump 1;halt", "load 0;test 3;halt;halt", "jump 2;point;emit 1;halt", "halt;point;jump 0", "load 0;test 0", "emit 1")
	// Circles that nothing reaches.
	becomes(t, drop, "halt;jump 1", "halt")
	becomes(t, drop, "halt;emit 1;jump 1;jump 2", "halt")
	becomes(t, drop, "jump 3;emit 1;jump 1;halt", "jump 1;halt")
	becomes(t, drop, "halt;load 0;test 1;jump 0", "halt")
	becomes(t, drop, "jump 3;jump 2;jump 1;point;emit 1;load 0;test 4;halt", "jump 1;point;emit 1;load 0;test 2;halt")
	stays(t, drop, "halt;point;jump 1", "jump 1;jump 0")
	becomes(t, drop, "jump 79;"+strings.Repeat("emit 1;", 78)+"halt", "jump 1;halt")
	becomes(t, drop, "emit 1;jump 79;"+strings.Repeat("jump 0;", 77)+"jump 0", "emit 1;jump 2;jump 0")
}

// TestPlacesAmongDropped has places and points before, between and behind what is left out.
func TestPlacesAmongDropped(t *testing.T) {
	drop := impl.DropUnreachable
	becomes(t, drop, "load 0;test 4;jump 6;emit 1;jump 8;emit 2;jump 0;emit 3;point;at a;jump 4;emit 0", "load 0;test 3;jump 4;jump 5;jump 0;point;at a;jump 3")
	becomes(t, drop, "point;at d;jump 2;emit 1;point;at c;jump 4;emit 2;point;at b;jump 0;emit 3;point;at a;jump 2", "point;at d;jump 1;point;at c;jump 2;point;at b;jump 0;point;at a;jump 1")
	// Places beyond the end are behind everything.
	becomes(t, drop, "jump 3;halt;halt", "jump 1")
	becomes(t, drop, "jump 5;halt;halt", "jump 3")
	becomes(t, drop, "load 0;test 79;jump 4;halt;jump 78", "load 0;test 78;jump 3;jump 77")
	// What is left out leads anywhere.
	becomes(t, drop, "halt;jump 0;jump 2;jump 3;jump 79;test 1;test 79;point;jump 7", "halt;point;jump 1")
}

func TestDropIdleJumps(t *testing.T) {
	drop := impl.DropIdleJumps
	becomes(t, drop, "jump 1;halt", "halt")
	becomes(t, drop, "emit 1;jump 2;halt", "emit 1;halt")
	becomes(t, drop, "emit 1;jump 2;emit 2;jump 4;halt", "emit 1;emit 2;halt")
	becomes(t, drop, "jump 1;point;at a;halt", "point;at a;halt")
	// Several one after another, of which the earlier ones become idle.
	becomes(t, drop, "jump 1;jump 2;jump 3;halt", "halt")
	becomes(t, drop, "jump 2;jump 2;halt", "halt")
	becomes(t, drop, "jump 3;jump 3;jump 3;halt", "halt")
	becomes(t, drop, jumpsTo(0, 79)+";halt", "halt")
	becomes(t, drop, strings.Repeat("jump 79;", 79)+"halt", "halt")
	becomes(t, drop, "jump 3;jump 2;emit 1;halt", "jump 2;emit 1;halt")
	becomes(t, drop, "jump 2;jump 3;halt;emit 1", "jump 2;jump 3;halt;emit 1")
	// A later one that is left out makes no other one idle but those before it.
	becomes(t, drop, "jump 3;emit 1;jump 3;halt", "jump 2;emit 1;halt")
	becomes(t, drop, "emit 1;jump 2;jump 1", "emit 1;jump 1")
	// OpTest stays, and so does an OpJump with a point, or to another place.
	stays(t, drop, "load 0;test 2;halt", "point;jump 1;halt", "emit 1;point;at a;jump 2;point;halt", "jump 0", "jump 2;emit 1;halt", "emit 1;jump 0", "halt", "jump 0;halt")
	becomes(t, drop, "jump 1;point;jump 2;jump 3;halt", "point;jump 1;halt")
	becomes(t, drop, "jump 2;point;jump 2;halt", "jump 2;point;jump 2;halt")
}

// TestOnlyJump has an OpJump that is the only instruction, or becomes it.
func TestOnlyJump(t *testing.T) {
	stays(t, impl.DropIdleJumps, "jump 1", "point;jump 1", "jump 0", "jump 2")
	becomes(t, impl.DropIdleJumps, "jump 1;jump 2", "jump 1")
	becomes(t, impl.DropIdleJumps, "jump 2;jump 2", "jump 1")
	becomes(t, impl.DropIdleJumps, jumpsTo(0, 79)+";jump 79", "jump 0")
	becomes(t, impl.DropIdleJumps, "point;jump 1;jump 2", "point;jump 1")
	becomes(t, impl.DropIdleJumps, "jump 1;point;jump 2", "point;jump 1")
	// The place behind the last instruction is the next one, too.
	becomes(t, impl.DropIdleJumps, "emit 1;jump 2", "emit 1")
	becomes(t, impl.DropIdleJumps, "load 0;test 3;jump 3", "load 0;test 2")
	stays(t, impl.DropIdleJumps, "emit 1;point;jump 2", "emit 1;jump 3")
}

// TestPlacesAmongIdleJumps has places and points before, at and behind OpJumps that are left out.
func TestPlacesAmongIdleJumps(t *testing.T) {
	drop := impl.DropIdleJumps
	becomes(t, drop, "load 0;test 3;emit 1;jump 4;emit 2;load 1;test 3;halt", "load 0;test 3;emit 1;emit 2;load 1;test 3;halt")
	becomes(t, drop, "load 0;test 4;emit 1;jump 4;emit 2;load 1;test 4;jump 3", "load 0;test 3;emit 1;emit 2;load 1;test 3;jump 3")
	becomes(t, drop, "load 0;test 2;jump 3;point;at a;emit 1;load 0;test 2;jump 7;point;at b;emit 3;jump 0", "load 0;test 2;point;at a;emit 1;load 0;test 2;point;at b;emit 3;jump 0")
	becomes(t, drop, "point;at a;emit 1;jump 2;jump 3;point;at b;jump 1;point;at c;jump 2;halt", "point;at a;emit 1;point;at b;jump 1;point;at c;jump 1;halt")
	becomes(t, drop, "jump 1;load 0;test 79;jump 50", "load 0;test 78;jump 49")
}

func TestOptimiseCode(t *testing.T) {
	optimise := impl.OptimiseCode
	becomes(t, optimise, "point;at a+1;push 0;load 0;add;test 9;push -1;load 0;add;store 0;jump 0;halt", "point;at a+1;load 0;test 7;push -1;load 0;add;store 0;jump 0;halt")
	becomes(t, optimise, "push 0;load 0;add;test 10;push 1;push 0;load 0;add;put;jump 10;push 0;get;store 1;halt", "load 0;test 5;push 1;load 0;put;push 0;get;store 1;halt")
	becomes(t, optimise, "halt", "halt")
	becomes(t, optimise, "jump 0", "jump 0")
	// What is unreachable only when jumps have been threaded.
	becomes(t, optimise, "jump 2;emit 1;jump 3;halt", "halt")
	becomes(t, optimise, "emit 1;jump 3;emit 2;jump 4;halt", "emit 1;halt")
	// An idle OpJump whose code cannot be reached, between instructions that are folded when it has gone.
	becomes(t, optimise, "push 3;jump 4;emit 1;halt;scale 4;store 0;halt", "push 12;store 0;halt")
	becomes(t, optimise, "push 3;jump 3;emit 1;jump 4;scale 4;store 0;halt", "push 12;store 0;halt")
	// A place that hinders a rule until what leads there has been left out.
	becomes(t, optimise, "push 3;scale 4;store 0;halt;jump 1", "push 12;store 0;halt")
	becomes(t, optimise, "push 3;jump 2;scale 4;jump 4;store 0;halt", "push 12;store 0;halt")
	// An OpJump that leads over another one to OpHalt, once a third one is left out.
	becomes(t, optimise, "emit 1;load 0;test 5;emit 2;jump 6;jump 6;jump 7;halt", "emit 1;load 0;test 5;emit 2;halt;halt")
	becomes(t, optimise, "jump 1;jump 2;jump 1", "jump 0")
	becomes(t, optimise, "jump 1;point;jump 2;jump 1", "point;jump 0")
	stays(t, optimise, "point;jump 1;point;halt", "load 0;test 2;halt", "load 0;test 3;halt;halt")
}

// TestPassesOneAfterAnother requires codes for which one round of the passes is not enough.
func TestPassesOneAfterAnother(t *testing.T) {
	again := 0
	for _, a := range codesToOptimise(1500) {
		round := a
		for _, p := range passes()[:4] {
			next, ok := p.change(round)
			same(t, p.name, ok, true)
			round = next
		}
		optimised, ok := impl.OptimiseCode(a)
		same(t, shown(a), ok, true)
		if textOfCode(t, round) != textOfCode(t, optimised) {
			again++
		}
		for _, p := range passes() {
			changed, ok := p.change(optimised)
			same(t, p.name+" of "+shown(optimised), results(changed, ok), results(optimised, true))
		}
	}
	if again < 50 {
		t.Errorf("only %d codes need more than one round", again)
	}
}

// TestOptimisedCodeIsShort requires that no pass makes code longer, and that optimised code has nothing that cannot be reached.
func TestOptimisedCodeIsShort(t *testing.T) {
	shorter := 0
	for _, a := range codesToOptimise(1500) {
		for _, p := range passes() {
			changed, ok := p.change(a)
			if !ok || len(changed.Code) > len(a.Code) {
				t.Errorf("%s of %s is longer", p.name, shown(a))
			}
		}
		optimised, _ := impl.OptimiseCode(a)
		if len(optimised.Code) < len(a.Code) {
			shorter++
		}
		reached := map[int64]bool{}
		waiting := []int64{0}
		for _, p := range optimised.Points {
			waiting = append(waiting, p.At)
		}
		for len(waiting) > 0 {
			k := waiting[0]
			waiting = waiting[1:]
			if k < int64(len(optimised.Code)) && !reached[k] {
				reached[k] = true
				for place := range targetsAgain(optimised.Code[k], k) {
					waiting = append(waiting, place)
				}
			}
		}
		same(t, shown(optimised), len(reached), len(optimised.Code))
		same(t, shown(optimised), slices.ContainsFunc(optimised.Points, func(p impl.Point) bool { return !reached[p.At] }), false)
	}
	if shorter < 1500 {
		t.Errorf("only %d codes are shorter", shorter)
	}
}
