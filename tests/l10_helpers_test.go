package tests

import (
	"math"
	"math/rand/v2"
	"slices"

	"loop.example/g01105/impl"
)

const (
	everything = "0,0,0,0"
	nothing    = "x,x,x,x"
	inTurn     = "1,x,x,x/x,0,x,x"
)

func policyOf(text string) impl.Policy {
	return mustRead(impl.ReadPolicy, text)
}

// rows makes policies with few words.
func rows(next ...[]int64) impl.Policy {
	return impl.Policy{Next: next}
}

// ring returns the policy that allows the event 0 again and again, with as many states. The last one allows the event 1 too, which begins again.
func ring(count int64) impl.Policy {
	var p impl.Policy
	for state := range count {
		p.Next = append(p.Next, []int64{(state + 1) % count, -1, -1, -1})
	}
	p.Next[count-1][1] = 0
	return p
}

// rope returns the policy that allows the event 0 one time less than it has states, and no other event.
func rope(count int64) impl.Policy {
	p := ring(count)
	p.Next[count-1] = []int64{-1, -1, -1, -1}
	return p
}

// behindTail returns a policy with one more state, which the event 0 leaves for the first one of the policy.
func behindTail(p impl.Policy) impl.Policy {
	tailed := rows([]int64{1, -1, -1, -1})
	for _, row := range p.Next {
		var next []int64
		for _, to := range row {
			if to >= 0 {
				to++
			}
			next = append(next, to)
		}
		tailed.Next = append(tailed.Next, next)
	}
	return tailed
}

// limitPolicies are policies at the limits.
func limitPolicies() []impl.Policy {
	list := []impl.Policy{policyOf(everything), policyOf(nothing), policyOf(inTurn), policyOf("0,x,x,x"), policyOf("x,x,x,0")}
	for count := int64(1); count <= 12; count++ {
		last := repeated(count-1, 4)
		list = append(list, ring(count), rope(count), rows(slices.Repeat([][]int64{last}, int(count))...), rows(slices.Repeat([][]int64{repeated(-1, 4)}, int(count))...))
	}
	return list
}

// badPolicies are no policies for any function that takes some.
func badPolicies() []impl.Policy {
	row := repeated(0, 4)
	list := []impl.Policy{{}, rows(), rows(nil), rows(nil, nil), rows(row, nil), rows(nil, row), rows(slices.Repeat([][]int64{row}, 13)...), rows(slices.Repeat([][]int64{row}, 1000)...), rows(make([][]int64, 12)...), rows(slices.Repeat([][]int64{nil}, 100000)...)}
	for _, length := range []int{0, 1, 3, 5, 8, 100000} {
		list = append(list, rows(repeated(0, length)), rows(row, repeated(-1, length), row), rows(row, row, repeated(0, length)))
	}
	for count := int64(1); count <= 12; count++ {
		for _, n := range []int64{-2, -3, count, count + 1, 12, 13, math.MinInt64, math.MaxInt64} {
			for _, event := range []int64{0, 1, 3} {
				p := rope(count)
				p.Next[count/2][event] = n
				list = append(list, p)
			}
		}
	}
	return list
}

// badWords are lists of numbers that are no words.
func badWords() [][]int64 {
	list := [][]int64{repeated(0, 41), repeated(1, 42), repeated(0, 100000), repeated(-1, 100000)}
	for _, bad := range []int64{-1, 4, 5, math.MinInt64, math.MaxInt64} {
		for _, k := range []int{0, 1, 2, 20, 39} {
			for _, event := range []int64{0, 1} {
				word := repeated(event, 40)
				word[k] = bad
				list = append(list, word, word[:k+1])
			}
		}
	}
	return list
}

// randomPolicy returns a policy in which one of so many events is forbidden.
func randomPolicy(random *rand.Rand, count int64, rarity int) impl.Policy {
	var p impl.Policy
	for range count {
		row := repeated(-1, 4)
		for event := range row {
			if random.IntN(rarity) != 0 {
				row[event] = random.Int64N(count)
			}
		}
		p.Next = append(p.Next, row)
	}
	return p
}

// blownUp returns a policy that allows the same words as another one with fewer states, for each of which it has at least one.
func blownUp(random *rand.Rand, p impl.Policy, count int64) impl.Policy {
	stands := append(counted(int64(len(p.Next))), repeated(0, int(count)-len(p.Next))...)
	for i := len(p.Next); i < len(stands); i++ {
		stands[i] = random.Int64N(int64(len(p.Next)))
	}
	random.Shuffle(len(stands)-1, func(i, j int) { stands[i+1], stands[j+1] = stands[j+1], stands[i+1] })
	var blown impl.Policy
	for _, state := range stands {
		row := repeated(-1, 4)
		for event, to := range p.Next[state] {
			if to < 0 {
				continue
			}
			for row[event] < 0 || stands[row[event]] != to {
				row[event] = random.Int64N(count)
			}
		}
		blown.Next = append(blown.Next, row)
	}
	return blown
}

// thinPolicy returns a policy whose states are told apart by long words alone: the event 0 leads round, and few other events are allowed.
func thinPolicy(random *rand.Rand, count int64) impl.Policy {
	p := ring(count)
	p.Next[count-1][1] = -1
	p.Next[count-1][0] = random.Int64N(count)
	for range 1 + random.IntN(2) {
		p.Next[random.Int64N(count)][1+random.IntN(3)] = random.Int64N(count)
	}
	return p
}

// manyPolicies returns policies from a fixed seed.
func manyPolicies(count int) []impl.Policy {
	random := rand.New(rand.NewPCG(87, 88))
	var list []impl.Policy
	for i := range count {
		size := 1 + random.Int64N(12)
		switch i % 5 {
		case 0:
			list = append(list, randomPolicy(random, size, 2))
		case 1:
			list = append(list, randomPolicy(random, size, 12))
		case 2:
			list = append(list, thinPolicy(random, size))
		case 3:
			list = append(list, blownUp(random, thinPolicy(random, 1+size/3), size))
		case 4:
			list = append(list, blownUp(random, randomPolicy(random, 1+size/3, 4), size))
		}
	}
	return list
}

// pairsOfPolicies returns pairs of policies from a fixed seed: any two, and two of which one has been made from the other.
func pairsOfPolicies(count int) [][2]impl.Policy {
	random := rand.New(rand.NewPCG(89, 90))
	list := manyPolicies(count)
	var pairs [][2]impl.Policy
	for _, p := range list {
		q := blownUp(random, p, int64(len(p.Next))+random.Int64N(13-int64(len(p.Next))))
		pairs = append(pairs, [2]impl.Policy{p, q}, [2]impl.Policy{p, list[random.IntN(len(list))]})
		q = sparedCopy(q)
		q.Next[random.IntN(len(q.Next))][random.IntN(4)] = random.Int64N(int64(len(q.Next))+1) - 1
		pairs = append(pairs, [2]impl.Policy{p, q}, [2]impl.Policy{q, p})
		narrow := sparedCopy(q)
		for range 3 {
			narrow.Next[random.IntN(len(q.Next))][random.IntN(4)] = -1
		}
		pairs = append(pairs, [2]impl.Policy{narrow, q})
	}
	return pairs
}

// emittingAnnotated returns annotated code from a fixed seed that emits many events, most of it on circles with points.
func emittingAnnotated(count int) []impl.Annotated {
	random := rand.New(rand.NewPCG(91, 92))
	var list []impl.Annotated
	for i := range count {
		var begins []int64
		var code []impl.Instr
		for range 2 + i%9 {
			begins = append(begins, int64(len(code)))
			v := impl.Instr{Op: impl.OpLoad, Arg: random.Int64N(3)}
			switch random.IntN(6) {
			case 0, 1, 2:
				for range 1 + random.IntN(3) {
					code = append(code, impl.Instr{Op: impl.OpEmit, Arg: random.Int64N(1 + int64(i%4))})
				}
			case 3, 4:
				code = append(code, v, impl.Instr{Op: impl.OpTest})
			case 5:
				code = append(code, v, impl.Instr{Op: impl.OpPush, Arg: -1}, impl.Instr{Op: impl.OpAdd}, impl.Instr{Op: impl.OpStore, Arg: v.Arg}, impl.Instr{Op: impl.OpJump})
			}
		}
		begins = append(begins, int64(len(code)))
		code = append(code, impl.Instr{Op: impl.OpHalt})
		for k := range code {
			if isIn(code[k].Op, impl.OpTest, impl.OpJump) {
				code[k].Arg = begins[random.IntN(len(begins))]
			}
		}
		a := impl.Annotated{Code: code}
		if random.IntN(3) == 0 {
			a.Points = pointsAt(begins[random.IntN(len(begins))])
		}
		list = append(list, closed(random, a))
	}
	return list
}

// codesToWatch returns annotated code of all kinds, most of which has paths.
func codesToWatch(count int) []impl.Annotated {
	return slices.Concat(emittingAnnotated(3*count), tameAnnotated(count), wildAnnotated(count), crowdedAnnotated(count/4))
}
