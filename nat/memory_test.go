package nat_test

import (
	"slices"
	"testing"

	"bushel/nat"
)

const mark = 0xabcdef01

// call is a function of the package with its lists of results.
type call struct {
	name string
	f    func(a, b []uint32) [][]uint32
}

func calls() []call {
	one := func(l []uint32) [][]uint32 { return [][]uint32{l} }
	return []call{
		{"Trim", func(a, b []uint32) [][]uint32 { return one(nat.Trim(a)) }},
		{"Add", func(a, b []uint32) [][]uint32 { return one(nat.Add(a, b)) }},
		{"Sub", func(a, b []uint32) [][]uint32 { l, _ := nat.Sub(a, b); return one(l) }},
		{"Mul", func(a, b []uint32) [][]uint32 { return one(nat.Mul(a, b)) }},
		{"Div", func(a, b []uint32) [][]uint32 { q, r, _ := nat.Div(a, b); return [][]uint32{q, r} }},
		{"Shl 0", func(a, b []uint32) [][]uint32 { l, _ := nat.Shl(a, 0); return one(l) }},
		{"Shl 32", func(a, b []uint32) [][]uint32 { l, _ := nat.Shl(a, 32); return one(l) }},
		{"Shl 5", func(a, b []uint32) [][]uint32 { l, _ := nat.Shl(a, 5); return one(l) }},
		{"Shr -1", func(a, b []uint32) [][]uint32 { return one(nat.Shr(a, -1)) }},
		{"Shr 0", func(a, b []uint32) [][]uint32 { return one(nat.Shr(a, 0)) }},
		{"Shr 32", func(a, b []uint32) [][]uint32 { return one(nat.Shr(a, 32)) }},
		{"Shr 5", func(a, b []uint32) [][]uint32 { return one(nat.Shr(a, 5)) }},
		{"Root", func(a, b []uint32) [][]uint32 { return one(nat.Root(a)) }},
		{"Of", func(a, b []uint32) [][]uint32 { x, _ := nat.Uint(a); return one(nat.Of(x)) }},
		{"Read", func(a, b []uint32) [][]uint32 { l, _ := nat.Read(nat.Text(a)); return one(l) }},
		{"others", func(a, b []uint32) [][]uint32 {
			return [][]uint32{nat.Of(uint64(nat.Cmp(a, b) + 1)), nat.Of(uint64(nat.Bits(a))), nat.Of(uint64(nat.Noughts(a)))}
		}},
	}
}

// roomy puts a list where an append without care would write behind it.
func roomy(a []uint32) []uint32 {
	l := append(make([]uint32, 0, len(a)+4), a...)
	fill(l[len(l):cap(l)])
	return l
}

func fill(l []uint32) {
	for i := range l {
		l[i] = mark
	}
}

func copies(l [][]uint32) [][]uint32 {
	var all [][]uint32
	for _, a := range l {
		all = append(all, slices.Clone(a))
	}
	return all
}

// R4, R5 and T10 for the promises 2.1 to 2.4: arguments stay as they are, and no
// result shares memory with them, with the other result or with a later one.
func TestMemory(t *testing.T) {
	for _, c := range calls() {
		for _, x := range numbers() {
			for _, y := range [][]uint32{nil, {0, 0}, {1}, {5, 0}, {0, 1}, {1, 2, 3}, x} {
				checkMemory(t, c, x, y)
			}
		}
	}
}

func checkMemory(t *testing.T, c call, x, y []uint32) {
	t.Helper()
	a, b := roomy(x), roomy(y)
	wholeA, wholeB := slices.Clone(a[:cap(a)]), slices.Clone(b[:cap(b)])
	results := c.f(a, b)
	want := copies(results)
	for i, l := range results {
		fill(l[:cap(l)])
		for j := i + 1; j < len(results); j++ {
			if !slices.Equal(results[j], want[j]) {
				t.Errorf("%s(%v, %v): two results share memory", c.name, x, y)
			}
		}
	}
	if !slices.Equal(a[:cap(a)], wholeA) || !slices.Equal(b[:cap(b)], wholeB) {
		t.Errorf("%s(%v, %v) changed an argument, or shares memory with it", c.name, x, y)
	}
	again := c.f(a, b)
	fill(a[:cap(a)])
	fill(b[:cap(b)])
	for i := range again {
		if !slices.Equal(again[i], want[i]) {
			t.Errorf("%s(%v, %v) = %v; want %v", c.name, x, y, again[i], want[i])
		}
	}
}

// R4: a list may stand for both arguments.
func TestSameArgument(t *testing.T) {
	for _, a := range numbers() {
		x := decimalOf(a)
		checkList(t, nat.Add(a, a), x.plus(x), "Add", a, a)
		checkList(t, nat.Mul(a, a), x.times(x), "Mul", a, a)
		if difference, ok := nat.Sub(a, a); len(difference) != 0 || !ok {
			t.Errorf("Sub(%v, %v) = %v, %t; want [], true", a, a, difference, ok)
		}
		if nat.Cmp(a, a) != 0 {
			t.Errorf("Cmp(%v, %v) is not 0", a, a)
		}
		quotient, remainder, ok := nat.Div(a, a)
		if ok != (x != "0") || ok && !slices.Equal(quotient, []uint32{1}) || len(remainder) != 0 {
			t.Errorf("Div(%v, %v) = %v, %v, %t", a, a, quotient, remainder, ok)
		}
	}
}
