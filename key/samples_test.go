package key_test

import (
	"fmt"
	"math"
	"slices"
	"strconv"
	"testing"

	"bushel/api"
)

// mixer makes the same numbers in every run.
type mixer uint64

func (m *mixer) word() uint32 {
	*m = *m*6364136223846793005 + 1442695040888963407
	return uint32(*m >> 32)
}

// long returns 64 mixed bits.
func (m *mixer) long() uint64 {
	return uint64(m.word())<<32 | uint64(m.word())
}

// below returns a number from 0 to n - 1.
func (m *mixer) below(n int) int {
	return int(m.word() % uint32(n))
}

// of returns one of the elements.
func of[E any](m *mixer, l []E) E {
	return l[m.below(len(l))]
}

// named returns n names: the letter and the numbers from 0 on.
func named(letter string, n int) []string {
	var l []string
	for i := range n {
		l = append(l, letter+strconv.Itoa(i))
	}
	return l
}

// made returns a schema with so many Ints and Nums, and dimensions of these Sizes.
func made(ints, nums int, sizes ...int) api.Schema {
	s := api.Schema{Ints: named("i", ints), Nums: named("n", nums)}
	for i, size := range sizes {
		s.Dims = append(s.Dims, api.Dim{Name: "d" + strconv.Itoa(i), Size: size})
	}
	return s
}

// example returns the schema of the chapter's example.
func example() api.Schema {
	return made(0, 0, 2, 3, 4)
}

// fullest returns a schema with as many dimensions and keys as there may be.
func fullest() api.Schema {
	return made(3, 2, 4096, 2, 4096, 8, 1, 4096)
}

// samples returns valid schemas. Measures and views make no difference to a key.
func samples() []api.Schema {
	viewed := made(1, 1, 3, 5, 7)
	viewed.Views = []uint32{0, 2, 5}
	return []api.Schema{
		example(),
		fullest(),
		viewed,
		made(0, 0, 1),
		made(1, 0, 2),
		made(0, 0, 4096),
		made(0, 1, 1, 1),
		made(0, 0, 1, 4096),
		made(0, 0, 4096, 1),
		made(0, 0, 255, 256, 257),
		made(2, 1, 1, 1, 1, 1, 1, 1),
		made(0, 0, 2, 2, 2, 2, 2, 2),
		made(0, 0, 3, 1, 5, 2, 4, 7),
		made(1, 2, 1024, 1024, 1024, 1024),
		made(0, 0, 16, 4096, 4096, 4096),
		made(0, 0, 4095, 4093, 4091, 13, 1),
	}
}

// small returns the samples with so few keys that one can go through all.
func small() []api.Schema {
	var l []api.Schema
	for _, s := range samples() {
		if defineNumber(s, defineFull(s)) <= 5000 {
			l = append(l, s)
		}
	}
	return l
}

// notValid returns schemas that are not valid, one for each reason and more. Some have
// dimensions with which one could compute, and some have Sizes of 0.
func notValid() []api.Schema {
	same, name, view, order := example(), example(), example(), example()
	same.Dims[2].Name = "d0"
	name.Dims[0].Name = "sum"
	view.Views = []uint32{7}
	order.Views = []uint32{2, 1}
	return []api.Schema{
		{},
		{Dims: []api.Dim{}, Ints: []string{"m"}},
		made(0, 0, 2, 3, 4, 1, 1, 1, 1),
		made(0, 0, slices.Repeat([]int{1}, 33)...),
		made(4, 0, 2, 3, 4),
		made(1, 3, 2, 3, 4),
		same,
		name,
		view,
		order,
		made(1, 1, 0),
		made(0, 0, 2, 0, 4),
		made(1, 1, 2, -1),
		made(1, 1, 4097),
		made(1, 1, math.MaxInt),
		made(1, 1, math.MinInt),
		made(1, 0, 4096, 4096, 4096, 17),
		made(1, 0, 4096, 4096, 4096, 4096, 4096, 4096),
	}
}

// sets returns all sets of dimensions that a schema has: the empty one, every single
// dimension and all of them are among these.
func sets(s api.Schema) []uint32 {
	var l []uint32
	for mask := range uint32(1) << len(s.Dims) {
		l = append(l, mask)
	}
	return l
}

// noSets returns masks with a bit that is not a dimension, alone and with dimensions.
func noSets(s api.Schema) []uint32 {
	n := len(s.Dims)
	full := uint32(1)<<n - 1
	var l []uint32
	for bit := n; bit < 32; bit++ {
		l = append(l, 1<<bit, 1<<bit|1, 1<<bit|full)
	}
	return append(l, ^full, math.MaxUint32, math.MaxUint32-1)
}

// codes returns a code of each dimension, often the first or the last one.
func (m *mixer) codes(s api.Schema) []int {
	var l []int
	for _, d := range s.Dims {
		l = append(l, of(m, []int{0, d.Size - 1, m.below(d.Size), m.below(d.Size)}))
	}
	return l
}

// wild returns numbers that are codes of few dimensions or of none.
func wild() []int {
	return []int{
		-1, -2, -4096, math.MinInt, math.MinInt + 1, math.MinInt32, 4096, 4097, 1 << 16, 1 << 31, 1 << 32, 1<<32 + 1,
		math.MaxInt - 1, math.MaxInt,
	}
}

// keysOf returns keys of a set: the first ones, the last ones, and mixed ones.
func (m *mixer) keysOf(s api.Schema, mask uint32) []uint64 {
	n := defineNumber(s, mask)
	l := []uint64{0, n - 1, n / 2, m.long() % n, m.long() % n}
	if n > 1 {
		l = append(l, 1, n-2)
	}
	return l
}

// noKeys returns numbers that are no keys of a set: the number of its keys, and others
// above.
func (m *mixer) noKeys(s api.Schema, mask uint32) []uint64 {
	n := defineNumber(s, mask)
	return []uint64{
		n, n + 1, 2*n - 1, 2 * n, n + 1<<32, n + 1<<40, n + 1<<63, 1 << 40, 1 << 63, math.MaxInt64,
		math.MaxUint64, math.MaxUint64 - 1, n + m.long()%(1<<62),
	}
}

// dims returns indexes of dimensions, and numbers below and above them.
func dims(s api.Schema) []int {
	l := []int{
		-1, -2, -len(s.Dims), len(s.Dims), len(s.Dims) + 1, 6, 31, 32, 33, 64, 1 << 32, -1 << 32,
		math.MinInt, math.MinInt32, math.MaxInt32, math.MaxInt,
	}
	for i := range s.Dims {
		l = append(l, i)
	}
	return l
}

// brief returns a list, or of a long one the beginning, for a message.
func brief[E any](l []E) []E {
	return l[:min(len(l), 30)]
}

// text returns a schema for a message.
func text(s api.Schema) string {
	var sizes []int
	for _, d := range s.Dims {
		sizes = append(sizes, d.Size)
	}
	return fmt.Sprintf("{Sizes %d Ints %d Nums %d Views %d}", brief(sizes), len(s.Ints), len(s.Nums), brief(s.Views))
}

// settle ends a test that has failed, so that one fault is not told thousands of
// times.
func settle(t *testing.T) {
	t.Helper()
	if t.Failed() {
		t.FailNow()
	}
}
