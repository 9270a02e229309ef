package tests

import (
	"slices"
	"strconv"
	"strings"
	"testing"

	"loop.example/g01105/impl"
)

func TestProofText(t *testing.T) {
	cases := []struct {
		p    []impl.Node
		text string
	}{
		{[]impl.Node{closing()}, "c"}, {[]impl.Node{closing(0)}, "c0"}, {[]impl.Node{closing(1, 1)}, "c1,1"}, {[]impl.Node{closing(0, 10, 1e6)}, "c0,10,1000000"}, {[]impl.Node{tightening(0), closing(0, 1, 1)}, "t0/c0,1,1"}, {[]impl.Node{tightening(19), tightening(10), closing()}, "t19/t10/c"},
		{[]impl.Node{splitting(fact(-1, 1)), closing(0, 1, 0, 2), closing(1, 0, 0, 2)}, "sa-1/c0,1,0,2/c1,0,0,2"}, {[]impl.Node{splitting(fact(0)), closing(), tightening(1), closing()}, "s0/c/t1/c"}, {[]impl.Node{splitting(fact(-1e6, -1, 0, 1e6)), closing(), closing()}, "s-a+1000000c-1000000/c/c"},
		{[]impl.Node{closing(repeated(1e6, 20)...)}, "c" + strings.Repeat("1000000,", 19) + "1000000"}, {append(slices.Repeat([]impl.Node{tightening(19)}, 59), closing()), strings.Repeat("t19/", 59) + "c"}, {append(slices.Repeat([]impl.Node{splitting(alone(9, 1)), closing()}, 29), closing()), strings.Repeat("sj/c/", 29) + "c"},
	}
	for _, c := range cases {
		text, ok := impl.ProofText(c.p)
		same(t, "ProofText", results(text, ok), results(c.text, true))
		p, ok := impl.ReadProof(c.text)
		same(t, "ReadProof "+c.text, results(p, ok), results(c.p, true))
	}
	for _, bad := range badProofs() {
		text, ok := impl.ProofText(bad)
		fails(t, shown(bad), text, ok)
	}
	good, bad := nodeFields()
	for field, changes := range bad {
		for _, change := range append(changes, good[field]...) {
			for kind, used := range map[int64]string{impl.ProofClose: "multipliers", impl.ProofSplit: "term", impl.ProofTighten: "fact"} {
				n := impl.Node{Kind: kind}
				change(&n)
				p := append([]impl.Node{n}, slices.Repeat([]impl.Node{closing()}, behindNode(n))...)
				text, ok := impl.ProofText(p)
				if same(t, shown(p), ok, impl.IsProof(p)); !ok || field != used {
					fails(t, shown(p), text, ok)
				}
			}
		}
	}
}

func TestProofsAreReadBack(t *testing.T) {
	texts := map[string]bool{}
	var proofs [][]impl.Node
	for _, x := range manyProofs(300) {
		proofs = append(proofs, x.P)
	}
	for _, p := range append(proofs, validProofs()...) {
		text, ok := impl.ProofText(p)
		same(t, "ProofText", results(text, ok), results(textOfNodes(p), true))
		got, ok := impl.ReadProof(text)
		same(t, "ReadProof "+text, results(got, ok), results(p, true))
		texts[text] = true
	}
	for text := range texts {
		if len(text) > 60 {
			continue
		}
		for k := range len(text) {
			for _, part := range []string{"/", ",", "0", "1", "9", "-", "+", "a", "c", "s", "t", " ", "C", "\x00"} {
				isReadProof(t, text[:k]+part+text[k:])
				isReadProof(t, text[:k]+part+text[k+1:])
			}
			isReadProof(t, text[:k]+text[k+1:])
			isReadProof(t, text[:k])
			isReadProof(t, text[k:])
		}
	}
}

// nodesAgain returns the nodes that a text writes by another way: it looks at the form of all parts first.
func nodesAgain(text string) ([]impl.Node, bool) {
	isNumber := func(s string, most int) bool {
		n, err := strconv.Atoi(s)
		return err == nil && strconv.Itoa(n) == s && n >= 0 && n <= most
	}
	for part := range strings.SplitSeq(text, "/") {
		if part == "" {
			return nil, false
		}
		good := false
		switch rest := part[1:]; part[0] {
		case 'c':
			numbers := strings.Split(rest, ",")
			good = rest == "" || len(numbers) <= 20 && !slices.ContainsFunc(numbers, func(s string) bool { return !isNumber(s, 1000000) })
		case 's':
			good = isTermText(rest)
		case 't':
			good = isNumber(rest, 19)
		}
		if !good {
			return nil, false
		}
	}
	p := nodesOf(text)
	_, ok := branchesAgain(p)
	return p, ok && len(p) <= 60
}

// isReadProof requires that a string is read if, and only if, it has the form of the text of a proof, and reports whether it has.
func isReadProof(t *testing.T, text string) bool {
	t.Helper()
	got, ok := impl.ReadProof(text)
	want, good := nodesAgain(text)
	if !good {
		fails(t, "ReadProof "+strconv.Quote(text), got, ok)
		return false
	}
	same(t, "ReadProof "+text, results(got, ok), results(want, true))
	back, ok := impl.ProofText(got)
	same(t, "ProofText", results(back, ok), results(text, true))
	return true
}

func TestReadProof(t *testing.T) {
	zeros := func(count int) string { return strings.TrimSuffix(strings.Repeat("0,", count), ",") }
	good := []string{
		"c", "c0", "c0,1", "c1000000", "c999999", "c" + zeros(20), "t0/c", "t9/c", "t10/c", "t19/c", "sa/c/c", "s0/c/c", "s-1/c/c", "s1000000/c/c", "s-a+b-1/c/c", "sa+2b+3c+4d+5e+6f+7g+8h+9i+10j+11/c/c", "sa/sb/c/c/c", "sa/c/sb/c/c", "t0/sa/c/t1/c", "sc/c/c", "ss/c/c",
		strings.Repeat("t0/", 59) + "c", strings.Repeat("sa/c/", 29) + "c", strings.Repeat("sa/", 29) + strings.Repeat("c/", 29) + "c", "t0/" + strings.Repeat("sa/c/", 29) + "c",
	}
	for _, text := range good {
		same(t, text, isReadProof(t, text), text != "ss/c/c")
	}
	bad := []string{
		"", "/", "c/", "/c", "c/c", "c//c", "t0//c", "t0/c/", "/t0/c", "t0", "t0/", "t0,/c", "t0,1/c", "t/c", "t-1/c", "t-0/c", "t00/c", "t01/c", "t20/c", "t+1/c", "t 1/c", "t0 /c", "ta/c", "t0/c/c", "t0c", "tc", "t1e1/c", "t9223372036854775808/c", "t18446744073709551616/c", "t4294967296/c",
		"c,", "c,,", "c0,", "c,0", "c0,,1", "c,0,1", "c00", "c01", "c0,01", "c-1", "c-0", "c+1", "c0,-1", "c1000001", "c0,1000001", "c01000000", "c9223372036854775808", "c18446744073709551617", "ca", "c a", "c 1", "c1 ", "c1, 1", "c1.0", "c1;1", "c1,1,1;", "c0x1", "c1_0", "cc", "c" + zeros(21), "c" + zeros(100000),
		"s", "s/c/c", "sa", "sa/c", "sa/c/c/c", "sa/c/", "sa//c", "sa/c//c", "s1a/c/c", "s0a/c/c", "s+a/c/c", "sb+a/c/c", "s-0/c/c", "s00/c/c", "s1000001/c/c", "sa+0/c/c", "sk/c/c", "s a/c/c", "sa /c/c", "sa,b/c/c", "s=>a/c/c", "sa;/c/c", "sA/c/c", "saa/c/c",
		"C", "T0/c", "Sa/c/c", "x", "x0", "0", "1,1", "a", "c\n", " c", "c ", "\x00", "c\x00", "\u00e4", "u0/c", "d", "b1", "r", "c1,1|c", "t0\\c", "t0/ c", "t0 / c",
		strings.Repeat("t0/", 60) + "c", strings.Repeat("sa/c/", 30) + "c", strings.Repeat("t0/", 60), strings.Repeat("c/", 100000), strings.Repeat("/", 100000), strings.Repeat("c", 100000), strings.Repeat("s", 100000), "c" + strings.Repeat(",", 100000), "c" + strings.Repeat("9", 100000), "t" + strings.Repeat("0", 100000) + "/c", "s" + strings.Repeat("a+", 100000) + "a/c/c",
	}
	for _, text := range bad {
		got, ok := impl.ReadProof(text)
		fails(t, "ReadProof "+text[:min(len(text), 50)], got, ok)
		if _, ok := nodesAgain(text); ok {
			t.Errorf("the form of %s is good", text[:min(len(text), 50)])
		}
	}
	for b := range 256 {
		for _, before := range []string{"", "c", "t", "t0/", "sa/c/", "c1,", "c1", "s"} {
			for _, behind := range []string{"", "1", "/c", "/c/c"} {
				isReadProof(t, before+string([]byte{byte(b)})+behind)
			}
		}
	}
}

// TestShortProofs holds all strings with few bytes against the form of texts.
func TestShortProofs(t *testing.T) {
	texts, count := []string{""}, 0
	for range 6 {
		for _, text := range texts {
			if isReadProof(t, text) {
				count++
			}
		}
		var longer []string
		for _, text := range texts {
			for _, b := range "cst/,01" {
				longer = append(longer, text+string(b))
			}
		}
		texts = longer
	}
	same(t, "some of them are proofs", count > 20, true)
}
