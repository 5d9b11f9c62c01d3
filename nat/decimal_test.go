package nat_test

import (
	"slices"
	"strings"
)

// decimal is a natural number as decimal digits without leading zeros. The tests
// hold the package's results against it: it calculates as one does on paper.
type decimal string

func (x decimal) plus(y decimal) decimal {
	sum := make([]byte, max(len(x), len(y))+1)
	carry := byte(0)
	for i := range len(sum) {
		carry += x.digit(i) + y.digit(i)
		sum[i] = carry % 10
		carry /= 10
	}
	return written(sum)
}

func (x decimal) times(y decimal) decimal {
	product := make([]byte, len(x)+len(y)+1)
	for i := range len(x) {
		carry := 0
		for j := range len(y) + 1 {
			carry += int(product[i+j]) + int(x.digit(i))*int(y.digit(j))
			product[i+j] = byte(carry % 10)
			carry /= 10
		}
	}
	return written(product)
}

func (x decimal) compare(y decimal) int {
	if len(x) != len(y) {
		if len(x) < len(y) {
			return -1
		}
		return 1
	}
	return strings.Compare(string(x), string(y))
}

// digit is that of 10^i, 0 beyond the highest one.
func (x decimal) digit(i int) byte {
	if i >= len(x) {
		return 0
	}
	return x[len(x)-1-i] - '0'
}

// written takes numbers from 0 to 9, that of 10^0 first.
func written(digits []byte) decimal {
	text := make([]byte, 0, len(digits))
	for _, d := range slices.Backward(digits) {
		text = append(text, '0'+d)
	}
	trimmed := strings.TrimLeft(string(text), "0")
	if trimmed == "" {
		return "0"
	}
	return decimal(trimmed)
}

// decimalOf is what a list represents.
func decimalOf(a []uint32) decimal {
	x := decimal("0")
	for _, word := range slices.Backward(a) {
		x = x.times("4294967296").plus(small(uint64(word)))
	}
	return x
}

func small(x uint64) decimal {
	var digits []byte
	for ; x > 0; x /= 10 {
		digits = append(digits, byte(x%10))
	}
	return written(digits)
}

func twoTo(n int) decimal {
	x := decimal("1")
	for range n {
		x = x.plus(x)
	}
	return x
}

// mixer makes the same words in every run.
type mixer uint64

func (m *mixer) word() uint32 {
	*m = *m*6364136223846793005 + 1442695040888963407
	return uint32(*m >> 32)
}

func (m *mixer) list(words int) []uint32 {
	l := make([]uint32, words)
	for i := range l {
		l[i] = m.word()
	}
	return l
}

// edges are the words at which carries, signs and guesses of digits change.
func edges() []uint32 {
	return []uint32{0, 1, 2, 1<<31 - 1, 1 << 31, 1<<31 + 1, 1<<32 - 2, 1<<32 - 1}
}

// numbers holds lists of up to seven words: small numbers, powers of two and
// their neighbours, and mixed words; some with trailing zero words.
func numbers() [][]uint32 {
	l := [][]uint32{nil, {}, {0}, {0, 0, 0}, {3, 0}, {7, 0, 0}, {10}, {999999999}, {1000000000}, {1000000001}}
	for _, low := range edges() {
		l = append(l, []uint32{low}, []uint32{low, 0})
		for _, high := range edges() {
			l = append(l, []uint32{low, high})
		}
	}
	ones, one := []uint32{1<<32 - 1}, []uint32{0}
	for range 4 {
		ones, one = append(ones, 1<<32-1), append(one, 0)
		power := append(slices.Clone(one), 1)
		above := slices.Clone(power)
		above[0] = 1
		l = append(l, slices.Clone(ones), power, above)
	}
	m := mixer(2)
	for words := 1; words <= 6; words++ {
		l = append(l, m.list(words), m.list(words), append(m.list(words), 0))
	}
	return l
}
