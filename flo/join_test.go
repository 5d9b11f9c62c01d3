package flo_test

import (
	"math"
	"slices"
	"strconv"
	"testing"

	"bushel/flo"
	"bushel/nat"
)

// checkJoin holds Join against a float, with either sign.
func checkJoin(t *testing.T, m []uint32, e int, want float64) {
	t.Helper()
	checkFloat(t, flo.Join(false, m, e), want, "Join", false, short(m), e)
	checkFloat(t, flo.Join(true, m, e), math.Copysign(want, -1), "Join", true, short(m), e)
}

// short keeps messages about long lists readable.
func short(m []uint32) []uint32 {
	return m[:min(len(m), 8)]
}

// Promise 3.3: ordinary inputs, and the ends of what a float can hold.
func TestJoin(t *testing.T) {
	for _, c := range []struct {
		m    uint64
		e    int
		want float64
	}{
		{1, 0, 1},
		{1, -1, 0.5},
		{6, 0, 6},
		{3, 1, 6},
		{12, -2, 3},
		{1, 10, 1024},
		{3602879701896397, -55, 0.1},
		{1 << 52, 0, 1 << 52},
		{1<<53 - 1, 0, 1<<53 - 1},
		{1 << 53, 0, 1 << 53},
		{1<<53 + 1, 0, 1 << 53},
		{1<<53 + 2, 0, 1<<53 + 2},
		{1<<53 + 3, 0, 1<<53 + 4},
		{1<<54 - 1, 0, 1 << 54},
		{1<<54 - 3, 0, 1<<54 - 4},
		{1<<64 - 1, 0, 0x1p64},
		{1<<64 - 1<<10, 0, 0x1p64},
		{1<<64 - 1<<10 - 1, 0, 0x1.fffffffffffffp63},
		{1, -1022, full},
		{1<<52 - 1, -1074, full - smallest},
		{1<<53 - 1, -1075, full},
		{1<<53 - 3, -1075, full - 2*smallest},
		{1<<52 + 1, -1074, full + smallest},
		{1, -1074, smallest},
		{2, -1075, smallest},
		{1, 1023, 0x1p1023},
		{1<<53 - 1, 971, largest},
		{1<<63 - 1<<10, 961, largest},
	} {
		checkJoin(t, nat.Of(c.m), c.e, c.want)
	}
}

// Promise 3.3: numbers at, below and above 2^-1075.
func TestJoinNearSmallest(t *testing.T) {
	for _, c := range []struct {
		m    uint64
		e    int
		want float64
	}{
		{1, -1075, 0},
		{2, -1076, 0},
		{1 << 63, -1138, 0},
		{1, -1076, 0},
		{3, -1077, 0},
		{1<<63 - 1, -1138, 0},
		{1<<64 - 1, -1139, 0},
		{1, -1077, 0},
		{1, -2000, 0},
		{1<<63 + 1, -1138, smallest},
		{3, -1076, smallest},
		{5, -1077, smallest},
		{1<<64 - 1, -1138, smallest},
		{3, -1075, 2 * smallest},
		{11, -1077, smallest},
		{13, -1077, 2 * smallest},
		{5, -1075, 2 * smallest},
		{7, -1075, 4 * smallest},
	} {
		checkJoin(t, nat.Of(c.m), c.e, c.want)
	}
	// 2^-1075 with a digit far below it on either side.
	at := make([]uint32, 101)
	at[100] = 1
	checkJoin(t, at, -1075-3200, 0)
	above := slices.Clone(at)
	above[0] = 1
	checkJoin(t, above, -1075-3200, smallest)
	below, _ := nat.Sub(at, []uint32{1})
	checkJoin(t, below, -1075-3200, 0)
}

// Promise 3.3: numbers at, below and above (2^54 - 1) * 2^970.
func TestJoinNearLargest(t *testing.T) {
	for _, c := range []struct {
		m    uint64
		e    int
		want float64
	}{
		{1<<54 - 1, 970, infinity},
		{1<<55 - 2, 969, infinity},
		{1<<55 - 3, 969, largest},
		{1<<55 - 1, 969, infinity},
		{1<<64 - 1<<10, 960, infinity},
		{1<<64 - 1<<10 - 1, 960, largest},
		{1<<64 - 1<<10 + 1, 960, infinity},
		{1<<54 - 2, 970, largest},
		{1<<54 - 3, 970, 0x1.ffffffffffffep1023},
		{1, 1024, infinity},
		{1, 1025, infinity},
		{1 << 53, 971, infinity},
		{3, 1023, infinity},
		{1<<53 - 1, 972, infinity},
	} {
		checkJoin(t, nat.Of(c.m), c.e, c.want)
	}
	at, _ := nat.Shl(nat.Of(1<<54-1), 970)
	checkJoin(t, at, 0, infinity)
	checkJoin(t, nat.Add(at, []uint32{1}), 0, infinity)
	below, _ := nat.Sub(at, []uint32{1})
	checkJoin(t, below, 0, largest)
	checkJoin(t, append(make([]uint32, 100), at...), -3200, infinity)
	checkJoin(t, append(make([]uint32, 100), below...), -3200, largest)
	checkJoin(t, append(slices.Repeat([]uint32{math.MaxUint32}, 100), below...), -3200, largest)
}

// Promise 3.3: between each float and the next one, the middle goes to the even
// significand, and what is just below or above the middle to the nearer float.
func TestJoinHalfway(t *testing.T) {
	for _, x := range append(mixed(1000), positives()...) {
		x = math.Abs(x)
		if x >= largest {
			continue
		}
		next := math.Nextafter(x, infinity)
		m, e := textParts(t, x)
		// 2 * m + 1 is the middle, in halves of the last place.
		even := x
		if m%2 == 1 {
			even = next
		}
		middle := nat.Of(2*m + 1)
		checkJoin(t, middle, e-1, even)
		for _, shift := range []int{1, 2, 9, 10, 11, 32, 64, 333} {
			fine, _ := nat.Shl(middle, shift)
			checkJoin(t, fine, e-1-shift, even)
			checkJoin(t, nat.Add(fine, []uint32{1}), e-1-shift, next)
			below, _ := nat.Sub(fine, []uint32{1})
			checkJoin(t, below, e-1-shift, x)
			checkJoin(t, append(below, 0, 0, 0), e-1-shift, x)
		}
	}
}

// Promise 3.3: a zero has the sign that was asked for.
func TestJoinZero(t *testing.T) {
	for _, m := range [][]uint32{nil, {}, {0}, {0, 0}, make([]uint32, 1000)} {
		for _, e := range exponents() {
			checkJoin(t, m, e, 0)
		}
	}
}

// exponents are the ends of an int and what is near the limits of floats.
func exponents() []int {
	return []int{
		math.MinInt, math.MinInt + 1, math.MinInt + 1074, math.MinInt + 1075, math.MinInt / 2,
		math.MinInt32, -1 << 20, -3000, -1075, -1, 0, 1, 971, 3000, 1 << 20, math.MaxInt32,
		math.MaxInt / 2, math.MaxInt - 1024, math.MaxInt - 1023, math.MaxInt - 32, math.MaxInt - 1, math.MaxInt,
	}
}

// Promise 3.3: exponents far beyond those of floats, for short and long lists.
func TestJoinFarExponents(t *testing.T) {
	m := mixer(5)
	long := append(m.list(1000), 1, 0)
	for _, list := range [][]uint32{{1}, {math.MaxUint32}, {5, 0, 0}, {1, 2, 3}, long} {
		for _, e := range exponents() {
			if e < -1<<19 {
				checkJoin(t, list, e, 0)
			}
			if e > 1<<19 {
				checkJoin(t, list, e, infinity)
			}
		}
	}
}

// Promise 3.3: lists of many words, whose exponent brings them back to floats.
func TestJoinManyWords(t *testing.T) {
	const words = 10000
	power := append(make([]uint32, words), 1)
	for _, c := range []struct {
		e    int
		want float64
	}{
		{0, infinity},
		{-32*words + 1024, infinity},
		{-32*words + 1023, 0x1p1023},
		{-32 * words, 1},
		{-32*words - 1022, full},
		{-32*words - 1074, smallest},
		{-32*words - 1075, 0},
		{-32*words - 1076, 0},
	} {
		checkJoin(t, power, c.e, c.want)
		checkJoin(t, append(slices.Clone(power), 0, 0, 0), c.e, c.want)
	}
	power[0] = 1
	checkJoin(t, power, -32*words, 1)
	checkJoin(t, power, -32*words-1075, smallest)
	power[words-2] = 1 << 11
	checkJoin(t, power, -32*words, 0x1.0000000000001p0)
	power[0] = 0
	checkJoin(t, power, -32*words, 1)
	power[0], power[words-2] = math.MaxUint32, 1<<11-1
	checkJoin(t, power, -32*words, 1)
}

// Promise 3.3: mixed lists of up to seven words at exponents over the whole
// range, against what the library reads from their hexadecimal text.
func TestJoinAsText(t *testing.T) {
	m := mixer(6)
	for words := 1; words <= 7; words++ {
		for e := -1400; e <= 1100; e += 7 {
			list := m.list(words)
			list[words-1] >>= m.word() % 32
			want := read(t, list, e)
			checkJoin(t, list, e, want)
			checkJoin(t, append(slices.Clone(list), 0, 0), e, want)
		}
	}
}

// read returns what strconv takes for list * 2^e. It rounds as Join promises.
func read(t *testing.T, list []uint32, e int) float64 {
	t.Helper()
	text := []byte("0x")
	for _, word := range slices.Backward(list) {
		// A leading 1 keeps the zeros of a word.
		text = append(text, strconv.FormatUint(1<<32|uint64(word), 16)[1:]...)
	}
	text = append(text, 'p')
	x, err := strconv.ParseFloat(string(strconv.AppendInt(text, int64(e), 10)), 64)
	if err != nil && !math.IsInf(x, 0) {
		t.Fatal(err)
	}
	return x
}

// R4 for promise 3.3: a list and what stands behind it in memory stay as they
// are.
func TestJoinLeavesItsList(t *testing.T) {
	m := mixer(7)
	for words := range 8 {
		for _, e := range []int{-2000, -1100, -300, -100, -32, -1, 0, 1, 32, 800, 2000} {
			list := append(m.list(words), 0, m.word(), 0, 0, 0xabcdef01)
			before := slices.Clone(list)
			flo.Join(false, list[:words], e)
			flo.Join(true, list[:words+3], e)
			if !slices.Equal(list, before) {
				t.Errorf("Join changed its list from %v to %v", before, list)
			}
		}
	}
}
