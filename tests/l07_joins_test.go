package tests

import (
	"math"
	"slices"
	"testing"

	"loop.example/g01105/impl"
)

// movedAgain returns code with other places by another way.
func movedAgain(code []impl.Instr, by int64) []impl.Instr {
	var moved []impl.Instr
	for _, x := range code {
		switch x.Op {
		case impl.OpJump, impl.OpTest:
			moved = append(moved, impl.Instr{Op: x.Op, Arg: x.Arg + by})
		default:
			moved = append(moved, x)
		}
	}
	return moved
}

// joinedCodeAgain returns joined code by another way; it need not be valid.
func joinedCodeAgain(a, b []impl.Instr) []impl.Instr {
	joined := slices.Concat(a, movedAgain(b, int64(len(a))))
	for k, x := range a {
		if x.Op == impl.OpHalt {
			joined[k] = impl.Instr{Op: impl.OpJump, Arg: int64(len(a))}
		}
	}
	return joined
}

// isMoved requires that shifted code is other code, or that there is none.
func isMoved(t *testing.T, code []impl.Instr, by int64, want []impl.Instr) {
	t.Helper()
	got, ok := impl.ShiftCode(code, by)
	if want == nil {
		fails(t, shown(code), got, ok)
		return
	}
	same(t, shown(code), results(got, ok), results(want, true))
}

func TestShiftCode(t *testing.T) {
	code := instrs("load 0;test 4;jump 0;emit 3;push 7;scale 2;halt")
	isMoved(t, code, 3, instrs("load 0;test 7;jump 3;emit 3;push 7;scale 2;halt"))
	isMoved(t, code, 0, code)
	isMoved(t, code, 75, instrs("load 0;test 79;jump 75;emit 3;push 7;scale 2;halt"))
	isMoved(t, code, 76, nil)
	isMoved(t, instrs("load 0;test 4;halt"), 76, nil)
	isMoved(t, instrs("jump 0"), 79, instrs("jump 79"))
	isMoved(t, instrs("jump 0"), 80, nil)
	isMoved(t, instrs("test 79"), 0, instrs("test 79"))
	isMoved(t, instrs("test 79"), 1, nil)
	isMoved(t, instrs("jump 0;test 79"), 1, nil)
	isMoved(t, instrs("push 79;store 3;add;halt"), 80, instrs("push 79;store 3;add;halt"))
	for _, by := range append(oddNumbers(), -1, 81) {
		if by < 0 || by > 80 {
			isMoved(t, instrs("halt"), by, nil)
			isMoved(t, instrs("jump 0"), by, nil)
		}
	}
	for _, code := range append(manyCodes(300), validCodes()...) {
		for _, by := range []int64{0, 1, 5, 48, 49, 50, 70, 79, 80} {
			want := movedAgain(code, by)
			if !impl.ValidCode(want) {
				want = nil
			}
			isMoved(t, code, by, want)
		}
	}
	for _, bad := range badCodes() {
		isMoved(t, bad, 0, nil)
	}
	// What is too great becomes no place again by a shift that is not allowed.
	isMoved(t, []impl.Instr{{Op: impl.OpJump, Arg: 80}}, -1, nil)
	isMoved(t, []impl.Instr{{Op: impl.OpJump, Arg: math.MaxInt64}}, math.MinInt64, nil)
}

// isJoinedCode requires that two codes have some joined code, or none.
func isJoinedCode(t *testing.T, a, b, want []impl.Instr) {
	t.Helper()
	got, ok := impl.JoinCode(a, b)
	if want == nil {
		fails(t, "JoinCode", got, ok)
		return
	}
	same(t, "JoinCode", results(got, ok), results(want, true))
}

func TestJoinCode(t *testing.T) {
	isJoinedCode(t, instrs("emit 1;halt"), instrs("emit 2;jump 0;halt"), instrs("emit 1;jump 2;emit 2;jump 2;halt"))
	isJoinedCode(t, instrs("halt"), instrs("halt"), instrs("jump 1;halt"))
	isJoinedCode(t, instrs("halt;test 1;halt;jump 0;halt"), instrs("test 1;halt;halt"), instrs("jump 5;test 1;jump 5;jump 0;jump 5;test 6;halt;halt"))
	isJoinedCode(t, instrs("emit 1"), instrs("emit 2"), instrs("emit 1;emit 2"))
	// Places of the first code stay, also those beyond its end.
	isJoinedCode(t, instrs("jump 1"), instrs("halt;jump 0"), instrs("jump 1;halt;jump 1"))
	isJoinedCode(t, instrs("test 79;jump 3"), instrs("halt"), instrs("test 79;jump 3;halt"))
	// Places of the second code can become too great.
	isJoinedCode(t, instrs("halt;halt"), instrs("jump 77"), instrs("jump 2;jump 2;jump 79"))
	isJoinedCode(t, instrs("halt;halt"), instrs("jump 78"), nil)
	isJoinedCode(t, instrs("halt"), instrs("halt;test 79"), nil)
	halt := impl.Instr{Op: impl.OpHalt}
	for _, size := range []int{1, 2, 40, 78, 79, 80} {
		for _, other := range []int{79 - size, 80 - size, 81 - size} {
			if other < 1 || other > 80 {
				continue
			}
			a, b := alike(halt, size), alike(halt, other)
			want := slices.Concat(alike(impl.Instr{Op: impl.OpJump, Arg: int64(size)}, size), b)
			if size+other > 80 {
				want = nil
			}
			isJoinedCode(t, a, b, want)
		}
	}
	isJoinedCode(t, alike(halt, 80), alike(halt, 80), nil)
	codes := append(manyCodes(300), validCodes()...)
	for i, a := range codes {
		b := codes[(7*i+1)%len(codes)]
		want := joinedCodeAgain(a, b)
		if !impl.ValidCode(want) {
			want = nil
		}
		isJoinedCode(t, a, b, want)
	}
	for _, bad := range badCodes() {
		isJoinedCode(t, bad, instrs("halt"), nil)
		isJoinedCode(t, instrs("halt"), bad, nil)
	}
}
