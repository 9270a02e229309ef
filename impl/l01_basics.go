package impl

import (
	"errors"
	"strconv"
	"strings"
)

// Limits of chapter 1.
const (
	MaxName    = 10
	MaxValue   = 1000000000
	MaxCoded   = 1000000000000000
	MaxItems   = 100
	MaxBytes   = 40000
	CheckPrime = 65521
)

const (
	digitBase = 128
	// The code of every number up to MaxCoded has at most this many digits.
	maxDigits = 8
	hexDigits = "0123456789abcdef"
)

// codeFlaw is the error that a string has no code where one is read.
type codeFlaw struct {
	at   int64
	what string
}

func (f *codeFlaw) Error() string {
	return f.what + " at " + strconv.FormatInt(f.at, 10)
}

// codeReader reads codes one after another. Its first error sticks: what is read behind it is zero, so that only the end needs a test.
type codeReader struct {
	text string
	at   int64
	err  error
}

func readerAt(s string, at int64) *codeReader {
	r := &codeReader{text: s, at: at}
	if !isBetween(at, 0, int64(len(s))) {
		r.fail("index outside")
	}
	return r
}

func (r *codeReader) fail(what string) {
	if r.err == nil {
		r.err = &codeFlaw{r.at, what}
	}
}

// end returns the index behind what has been read, and whether all of it was there.
func (r *codeReader) end() (int64, bool) {
	var flaw *codeFlaw
	if errors.As(r.err, &flaw) {
		return 0, false
	}
	return r.at, true
}

// bytes returns the next n bytes.
func (r *codeReader) bytes(n int64) string {
	if r.err != nil {
		return ""
	}
	if int64(len(r.text))-r.at < n {
		r.fail("early end")
		return ""
	}
	part := r.text[r.at : r.at+n]
	r.at += n
	return part
}

// digit returns the next digit of a number, and whether another one follows.
func (r *codeReader) digit() (int64, bool) {
	part := r.bytes(1)
	if part == "" {
		return 0, false
	}
	return int64(part[0]) % digitBase, part[0] >= digitBase
}

func (r *codeReader) number() int64 {
	m, weight := int64(0), int64(1)
	for range maxDigits {
		digit, more := r.digit()
		m += digit * weight
		if !more {
			if digit == 0 && weight > 1 {
				r.fail("last digit 0")
			}
			return r.signed(m)
		}
		weight *= digitBase
	}
	r.fail("too many digits")
	return 0
}

// signed returns the number whose code has the digits of m.
func (r *codeReader) signed(m int64) int64 {
	if m > 2*MaxCoded {
		r.fail("number too great")
	}
	if r.err != nil {
		return 0
	}
	if m%2 == 0 {
		return m / 2
	}
	return -(m / 2) - 1
}

// size returns the next number if it can tell how many of at most limit things follow.
func (r *codeReader) size(limit int64) int64 {
	n := r.number()
	if !isBetween(n, 0, limit) {
		r.fail("wrong size")
		return 0
	}
	return n
}

func (r *codeReader) list() []int64 {
	list := make([]int64, r.size(MaxItems))
	for i := range list {
		list[i] = r.number()
	}
	return list
}

func (r *codeReader) sizedText() string {
	return r.bytes(r.size(MaxBytes))
}

func isBetween(n, least, greatest int64) bool {
	return least <= n && n <= greatest
}

func isCoded(n int64) bool {
	return isBetween(n, -MaxCoded, MaxCoded)
}

func areBetween(list []int64, least, greatest int64) bool {
	for _, n := range list {
		if !isBetween(n, least, greatest) {
			return false
		}
	}
	return true
}

func areCoded(list []int64) bool {
	return len(list) <= MaxItems && areBetween(list, -MaxCoded, MaxCoded)
}

// eachOf returns a new list with the images of all elements.
func eachOf[A, B any](list []A, image func(A) B) []B {
	images := make([]B, len(list))
	for i, x := range list {
		images[i] = image(x)
	}
	return images
}

// splitText returns the parts between separators. They are copies: no result keeps the memory of an argument.
func splitText(s, separator string) []string {
	return eachOf(strings.Split(s, separator), strings.Clone)
}

func appendNumber(code []byte, n int64) []byte {
	m := 2 * n
	if n < 0 {
		m = -2*n - 1
	}
	for m >= digitBase {
		code = append(code, byte(m%digitBase+digitBase))
		m /= digitBase
	}
	return append(code, byte(m))
}

// IsName reports whether s is a name.
func IsName(s string) bool {
	for _, letter := range s {
		if letter < 'a' || letter > 'z' {
			return false
		}
	}
	return isBetween(int64(len(s)), 1, MaxName)
}

// Decimal returns n in decimal.
func Decimal(n int64) string {
	return strconv.FormatInt(n, 10)
}

// ReadDecimal returns the number with a decimal text.
func ReadDecimal(s string) (int64, bool) {
	n, err := strconv.ParseInt(s, 10, 64)
	// ParseInt also accepts a plus sign and leading zeros, which Decimal never writes.
	if err != nil || !isBetween(n, -MaxValue, MaxValue) || Decimal(n) != s {
		return 0, false
	}
	return n, true
}

// DivFloor returns a / b, rounded down.
func DivFloor(a, b int64) (int64, bool) {
	if !isCoded(a) || !isBetween(b, 1, MaxCoded) {
		return 0, false
	}
	quotient := a / b
	if a%b < 0 {
		quotient--
	}
	return quotient, true
}

// GcdOf returns the greatest common divisor of a list.
func GcdOf(list []int64) (int64, bool) {
	if !areCoded(list) {
		return 0, false
	}
	divisor := int64(0)
	for _, n := range list {
		for n != 0 {
			divisor, n = n, divisor%n
		}
	}
	return max(divisor, -divisor), true
}

// PutNumber returns the code of a number.
func PutNumber(n int64) (string, bool) {
	if !isCoded(n) {
		return "", false
	}
	return string(appendNumber(nil, n)), true
}

// GetNumber returns the number whose code begins at an index.
func GetNumber(s string, at int64) (int64, int64, bool) {
	r := readerAt(s, at)
	n := r.number()
	end, ok := r.end()
	if !ok {
		return 0, 0, false
	}
	return n, end, true
}

// PutList returns the code of a list.
func PutList(list []int64) (string, bool) {
	if !areCoded(list) {
		return "", false
	}
	code := appendNumber(nil, int64(len(list)))
	for _, n := range list {
		code = appendNumber(code, n)
	}
	return string(code), true
}

// GetList returns the list whose code begins at an index.
func GetList(s string, at int64) ([]int64, int64, bool) {
	r := readerAt(s, at)
	list := r.list()
	end, ok := r.end()
	if !ok {
		return nil, 0, false
	}
	return list, end, true
}

// PutText returns the code of a text.
func PutText(t string) (string, bool) {
	if len(t) > MaxBytes {
		return "", false
	}
	return string(append(appendNumber(nil, int64(len(t))), t...)), true
}

// GetText returns the text whose code begins at an index.
func GetText(s string, at int64) (string, int64, bool) {
	r := readerAt(s, at)
	text := r.sizedText()
	end, ok := r.end()
	if !ok {
		return "", 0, false
	}
	return strings.Clone(text), end, true
}

// CheckOf returns the check number of a string.
func CheckOf(s string) int64 {
	a, b := int64(1), int64(0)
	for i := range len(s) {
		a = (a + int64(s[i])) % CheckPrime
		b = (b + a) % CheckPrime
	}
	return a + CheckPrime*b
}

// HexOf returns a string in hexadecimal digits.
func HexOf(s string) (string, bool) {
	if len(s) > MaxBytes {
		return "", false
	}
	digits := make([]byte, 0, 2*len(s))
	for i := range len(s) {
		digits = append(digits, hexDigits[s[i]/16], hexDigits[s[i]%16])
	}
	return string(digits), true
}

// ReadHex returns the string with some hexadecimal digits.
func ReadHex(h string) (string, bool) {
	if len(h) > 2*MaxBytes || len(h)%2 != 0 {
		return "", false
	}
	read := make([]byte, 0, len(h)/2)
	for i := 0; i < len(h); i += 2 {
		high := strings.IndexByte(hexDigits, h[i])
		low := strings.IndexByte(hexDigits, h[i+1])
		if high < 0 || low < 0 {
			return "", false
		}
		read = append(read, byte(16*high+low))
	}
	return string(read), true
}

// LinesOf returns the lines of a text.
func LinesOf(s string) ([]string, bool) {
	if s == "" {
		return nil, true
	}
	body, ended := strings.CutSuffix(s, "\n")
	if len(s) > MaxBytes || !ended {
		return nil, false
	}
	return splitText(body, "\n"), true
}

// WordsOf returns the parts of a line between its blanks.
func WordsOf(line string) []string {
	return splitText(line, " ")
}
