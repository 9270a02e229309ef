package tests

import (
	"math"
	"math/rand/v2"
	"slices"
	"strings"
	"testing"

	"loop.example/g01105/impl"
)

// isPacked requires the bytes of a package, and that they are read.
func isPacked(t *testing.T, p impl.Package, want string) {
	t.Helper()
	s, ok := impl.PackageBytes(p)
	same(t, shown(p), results(s, ok), results(want, true))
	again, ok := impl.ReadPackage(want)
	same(t, shown(p), results(again, ok), results(p, true))
}

// isNoPackage requires that bytes are those of no package.
func isNoPackage(t *testing.T, what, s string) {
	t.Helper()
	p, ok := impl.ReadPackage(s)
	fails(t, what+shown(s), p, ok)
}

func TestPackageBytes(t *testing.T) {
	halt := impl.Package{Name: "a", Code: bare("halt")}
	// The sums of the bytes and 1 are 3, 100, 110, 214, 311, 419, 535, 545 and 545, and their sum is 2782.
	isPacked(t, halt, "\x02a\x0ahalt\n\x00"+codeOf(545+65521*2782))
	isPacked(t, halt, "\x02a\x0ahalt\n\x00\xbe\xfc\xea\xad\x01")
	halt.Proofs = [][]impl.Node{nodesOf("c1,0"), nodesOf("sa/t0/c/c7")}
	isPacked(t, halt, signed("\x02a\x0ahalt\n\x04\x08c1,0\x14sa/t0/c/c7"))
	isPacked(t, packed(t, "inc", incCode), signed("\x06inc\x6apre b\npost a-1\nload 1\npush 1\nadd\nstore 0\nemit 2\nhalt\n\x02\x08c1,1"))
	for _, p := range append(handPackages(t), manyPackages(300)...) {
		isPacked(t, p, bytesAgain(p))
	}
	for _, p := range badPackages() {
		s, ok := impl.PackageBytes(p)
		fails(t, "no package", s, ok)
	}
}

// TestPackagesOfAnyParts packs what is valid, whether it is proved or not.
func TestPackagesOfAnyParts(t *testing.T) {
	random := rand.New(rand.NewPCG(101, 102))
	proofs := validProofs()
	codes := append(validAnnotated(), manyAnnotated(200)...)
	for i := range 600 {
		p := impl.Package{Name: letters(random.IntN(1000000)), Code: codes[i%len(codes)]}
		for range random.IntN(1 + i%20) {
			p.Proofs = append(p.Proofs, proofs[random.IntN(len(proofs))])
		}
		if len(bytesAgain(p)) > 40000 {
			t.Fatal("too many bytes for this test")
		}
		isPacked(t, p, bytesAgain(p))
	}
	for _, count := range []int{0, 1, 59, 60} {
		p := impl.Package{Name: "abcdefghij", Code: bare("jump 0"), Proofs: slices.Repeat([][]impl.Node{nodesOf("t1/c2")}, count)}
		isPacked(t, p, bytesAgain(p))
	}
}

// weighty returns a package with some proofs of 59 nodes. Its multipliers have so many digits more than they need.
func weighty(count, digits int) impl.Package {
	p := impl.Package{Name: "weighty", Code: bare("halt")}
	for range count {
		proof := splitsOf(0, 29)
		for k := range proof {
			if proof[k].Kind != impl.ProofClose {
				continue
			}
			proof[k].Multipliers = repeated(1, 20)
			for i := range 20 {
				for more := min(6, digits); more > 0; more-- {
					proof[k].Multipliers[i] *= 10
					digits--
				}
			}
		}
		p.Proofs = append(p.Proofs, proof)
	}
	return p
}

// weighing returns a package that has so many bytes.
func weighing(t *testing.T, size int) impl.Package {
	t.Helper()
	count := size / 3000
	least := size - len(bytesAgain(weighty(count, 0))) - 2*count - 8
	for digits := least; digits < least+4*count+16; digits++ {
		if p := weighty(count, digits); len(bytesAgain(p)) == size {
			return p
		}
	}
	t.Fatalf("no package of %d bytes", size)
	return impl.Package{}
}

// TestMaxBytesOfPackages has packages around the limit. Only PackageBytes has it: all packages are read from their bytes.
func TestMaxBytesOfPackages(t *testing.T) {
	for _, size := range []int{20000, 39998, 39999, 40000} {
		p := weighing(t, size)
		isPacked(t, p, bytesAgain(p))
	}
	for _, size := range []int{40001, 40002, 41000, 80000} {
		p := weighing(t, size)
		s, ok := impl.PackageBytes(p)
		fails(t, "too many bytes", s, ok)
		again, ok := impl.ReadPackage(bytesAgain(p))
		same(t, "many bytes", results(again, ok), results(p, true))
	}
	full := weighty(60, 60*30*20*6)
	same(t, "ValidPackage", impl.ValidPackage(full), true)
	s, ok := impl.PackageBytes(full)
	fails(t, "much too many bytes", s, ok)
}

// somePieces are pieces of packages with no, one and several proofs.
func somePieces(t *testing.T) []pieces {
	t.Helper()
	var list []pieces
	for _, p := range handPackages(t) {
		list = append(list, piecesOf(p))
	}
	p := packed(t, "abcdefghij", incCode)
	p.Proofs = [][]impl.Node{nodesOf("sa-1/t0/c0,1,1/c7"), nodesOf("c"), nodesOf("t19/c1000000,0")}
	return append(list, piecesOf(p))
}

// TestBytesThatEnd has bytes that end too early, and bytes behind the end.
func TestBytesThatEnd(t *testing.T) {
	for _, x := range somePieces(t) {
		s := x.signed()
		for k := range len(s) {
			isNoPackage(t, "an early end", s[:k])
			isNoPackage(t, "a late beginning", s[k+1:])
			if k != len(x.body()) {
				isNoPackage(t, "an early end with a check number", signed(s[:k]))
			}
		}
		for more := range 256 {
			isNoPackage(t, "one byte more", s+string([]byte{byte(more)}))
			isNoPackage(t, "one byte more in front", string([]byte{byte(more)})+s)
			isNoPackage(t, "one byte more before the check number", signed(x.body()+string([]byte{byte(more)})))
		}
		for _, more := range []string{s, "\x00\x00", "halt\n", strings.Repeat("\x00", 100000), codeOf(checkAgain(s))} {
			isNoPackage(t, "more bytes", s+more)
		}
		isNoPackage(t, "no check number", x.body())
	}
	isNoPackage(t, "nothing", "")
	isNoPackage(t, "a check number alone", signed(""))
	for _, s := range oddStrings() {
		isNoPackage(t, "an odd string", s)
		isNoPackage(t, "an odd string with a check number", signed(s))
	}
}

// longWays returns the code of a number with more bytes than it needs, and codes like it.
func longWays(code string) []string {
	last := len(code) - 1
	open := code[:last] + string([]byte{code[last] + 128})
	return []string{open + "\x00", open + "\x80\x00", open + strings.Repeat("\x80", 6) + "\x00", open + strings.Repeat("\x80", 100) + "\x00", open, code + "\x00", "\x80" + code}
}

// TestNumbersOfBytes changes the numbers in bytes, and puts the right check number behind them.
func TestNumbersOfBytes(t *testing.T) {
	for _, x := range somePieces(t) {
		read, ok := impl.ReadPackage(x.signed())
		same(t, "unchanged", results(ok, piecesOf(read)), results(true, x))
		for k, piece := range x {
			if !x.isNumber(k) {
				continue
			}
			for _, code := range longWays(piece) {
				isNoPackage(t, "a long number", x.with(k, code).signed())
			}
			n, _, _ := impl.GetNumber(piece, 0)
			numbers := []int64{-1, -n - 1, n + 1, n - 1, n + 2, n + 64, 2*n + 1, 61, 100, 39999, 40000, 40001, 1 << 31, 1 << 32, 1<<32 + n, 1e15, 1e15 + 1, -1e15, math.MaxInt64, math.MinInt64}
			if n != 0 {
				numbers = append(numbers, 0, -n)
			}
			for _, number := range numbers {
				isNoPackage(t, "another number", x.with(k, codeOf(number)).signed())
			}
			isNoPackage(t, "no number", x.with(k, "").signed())
		}
	}
	// The number of proofs is that of the proofs that are there, but too great.
	for _, count := range []int{60, 61, 62, 1000} {
		x := pieces{}.withMore("a").withMore("halt\n")
		x = append(x, codeOf(int64(count)))
		for range count {
			x = x.withMore("c1")
		}
		_, ok := impl.ReadPackage(x.signed())
		same(t, "the number of proofs", ok, count == 60)
		if !ok {
			isNoPackage(t, "too many proofs", x.signed())
		}
	}
}

// TestCheckNumbersOfBytes puts other check numbers behind bytes.
func TestCheckNumbersOfBytes(t *testing.T) {
	for _, x := range somePieces(t) {
		body := x.body()
		check := checkAgain(body)
		for _, other := range []int64{0, 1, -1, check + 1, check - 1, -check, -check - 1, check + 65521, check - 65521, check + 65521*65521, check + 1<<32, check * 2, check % 65521, check / 65521, checkAgain(x.signed()), checkAgain(body[1:]), checkAgain(body[:len(body)-1]), checkAgain(""), 1e15, 1e15 + 1, -1e15, math.MaxInt64, math.MinInt64} {
			isNoPackage(t, "another check number", body+codeOf(other))
		}
		for _, code := range longWays(codeOf(check)) {
			isNoPackage(t, "a long check number", body+code)
		}
		isNoPackage(t, "two check numbers", signed(signed(body)))
	}
}

// TestTextsOfBytes has texts in bytes that are no name, no code or no proof, or are written in another way.
func TestTextsOfBytes(t *testing.T) {
	codes := []string{
		"", "\n", "halt", "halt\n\n", "\nhalt\n", " halt\n", "halt \n", "HALT\n", "halt 0\n", "halt\r\n", "halt;", "push\n", "push 00\nhalt\n", "push +1\nhalt\n", "push -0\nhalt\n", "push 1000001\nhalt\n", "load 4\nhalt\n", "jump 80\n", "pre\nhalt\n", "pre a\n", "pre 1a\nhalt\n", "pre +a\nhalt\n", "pre b+a\nhalt\n", "pre a+0\nhalt\n", "pre e\nhalt\n", "post a\npre a\nhalt\n", "halt\npre a\n", "halt\npoint\n", "point\npoint\nhalt\n", "at a\nhalt\n",
		strings.Repeat("pre a\n", 7) + "halt\n", strings.Repeat("halt\n", 81), strings.Repeat("point\nhalt\n", 9), strings.Repeat("halt\n", 8000), "fly\n", "halt\x00\n", "halt\n\x00", "c1", "inc",
	}
	proofs := []string{
		"", "/", "c/", "/c", "c/c", "C1", "c1,", "c,1", "c1,,1", "c 1", "c1 ", "c1, 1", "c01", "c+1", "c-1", "c-0", "c1000001", "c1\n", "c1;1", "c" + strings.Repeat("1,", 20) + "1", "s0/c", "s0/c/c/c", "s/c/c", "s+a/c/c", "sb+a/c/c", "s1a/c/c", "sa+0/c/c", "s1000001/c/c", "sk/c/c", "t0", "t/c", "t00/c", "t+1/c", "t-1/c", "t20/c", "t0/c/c", "x", "1", "t0/t0", strings.Repeat("t0/", 60) + "c", strings.Repeat("t0/", 10000) + "c", "halt\n",
	}
	for _, x := range somePieces(t) {
		for _, text := range badNames() {
			if len(text) < 100 {
				isNoPackage(t, "no name", x.withText(namePiece, text).signed())
			}
		}
		for _, text := range codes {
			isNoPackage(t, "no code", x.withText(codePiece, text).signed())
		}
		for k := proofPiece; k < len(x); k += 2 {
			for _, text := range proofs {
				isNoPackage(t, "no proof", x.withText(k, text).signed())
			}
		}
	}
	// The longest proof is read, and one with a node more is not.
	x := pieces{}.withMore("a").withMore("halt\n")
	x = append(x, codeOf(1)).withMore(strings.Repeat("t0/", 59) + "c")
	p, ok := impl.ReadPackage(x.signed())
	same(t, "60 nodes", results(len(p.Proofs), ok), results(1, true))
}

// TestPartsOfBytes changes the order of parts, and leaves some out.
func TestPartsOfBytes(t *testing.T) {
	name, code, proof := textPiece("a"), textPiece("halt\n"), textPiece("c1")
	none, one := codeOf(0), codeOf(1)
	same(t, "a package", mustRead(impl.ReadPackage, signed(name+code+one+proof)).Name, "a")
	for _, parts := range [][]string{
		{}, {name}, {name, code}, {name, none}, {code, none}, {code, name, none}, {name, none, code}, {none, name, code}, {name, code, one}, {name, code, proof}, {name, code, none, proof}, {name, code, one, one, proof}, {name, code, one, proof, proof}, {name, one, proof, code}, {name, code, none, none}, {name, name, code, none}, {name, code, code, none}, {name, proof, one, code},
	} {
		isNoPackage(t, "other parts", signed(strings.Join(parts, "")))
	}
}

// zeroBody returns the bytes of a package before its check number, which is 0. Its proofs have digits that can change: one that is more by 1 adds 1 to the first sum, and its distance from the end to the second one.
func zeroBody() string {
	x := pieces{}.withMore("zero").withMore("halt\n")
	x = append(x, codeOf(31))
	for range 31 {
		x = x.withMore("c" + strings.Repeat("5,", 19) + "5")
	}
	body := []byte(x.body())
	var places []int
	for k, b := range body {
		if b == '5' {
			places = append(places, k)
		}
	}
	for k := 0; checkAgain(string(body))%65521 != 0; k++ {
		body[places[k%len(places)]]++
	}
	// Even distances are enough, as the prime is odd.
	missing := 65521 - int(checkAgain(string(body))/65521)
	if missing%2 == 1 {
		missing += 65521
	}
	for first, last := 0, len(places)-1; missing > 0; {
		i, j := places[first], places[last]
		switch {
		case (j-i)%2 == 1 || j-i > missing || body[j] == '1':
			last--
		case body[i] == '9':
			first++
		default:
			body[i]++
			body[j]--
			missing -= j - i
		}
	}
	return string(body)
}

// TestCheckNumberZero has bytes whose check number is 0, which cannot be left out.
func TestCheckNumberZero(t *testing.T) {
	body := zeroBody()
	same(t, "the check number", results(checkAgain(body), impl.CheckOf(body)), results(int64(0), int64(0)))
	p, ok := impl.ReadPackage(body + "\x00")
	same(t, "read", results(len(p.Proofs), ok), results(31, true))
	isPacked(t, p, body+"\x00")
	for _, end := range []string{"", "\x01", "\x02", "\x80", "\x80\x00", "\x00\x00", codeOf(65521), codeOf(65521 * 65521)} {
		isNoPackage(t, "another end", body+end)
	}
}
