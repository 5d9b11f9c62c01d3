package fact_test

import (
	"fmt"
	"math"
	"slices"
	"strconv"
	"testing"

	"bushel/api"
	"bushel/schema"
)

// mixer makes the same numbers in every run.
type mixer uint64

func (m *mixer) word() uint32 {
	*m = *m*6364136223846793005 + 1442695040888963407
	return uint32(*m >> 32)
}

// long returns 64 mixed bits.
func (m *mixer) long() uint64 {
	return uint64(m.word())<<32 | uint64(m.word())
}

// below returns a number from 0 to n - 1.
func (m *mixer) below(n int) int {
	return int(m.word() % uint32(n))
}

// of returns one of the elements.
func of[E any](m *mixer, l []E) E {
	return l[m.below(len(l))]
}

// named returns n names: the letter and the numbers from 0 on.
func named(letter string, n int) []string {
	var l []string
	for i := range n {
		l = append(l, letter+strconv.Itoa(i))
	}
	return l
}

// made returns a schema with so many Ints and Nums, and dimensions of these Sizes.
func made(ints, nums int, sizes ...int) api.Schema {
	s := api.Schema{Ints: named("i", ints), Nums: named("n", nums)}
	for i, size := range sizes {
		s.Dims = append(s.Dims, api.Dim{Name: "d" + strconv.Itoa(i), Size: size})
	}
	return s
}

// example returns the schema of the chapter's example.
func example() api.Schema {
	return api.Schema{Dims: []api.Dim{{Name: "a", Size: 2}}, Ints: []string{"m"}}
}

// greatest returns a schema with as many of everything as there may be.
func greatest() api.Schema {
	return made(3, 2, 4096, 2, 256, 1, 257, 300)
}

// samples returns valid schemas. Views make no difference to a fact.
func samples() []api.Schema {
	viewed := made(1, 1, 3, 5)
	viewed.Views = []uint32{0, 2}
	return []api.Schema{
		example(),
		greatest(),
		viewed,
		made(0, 0, 1),
		made(0, 0, 4096),
		made(1, 0, 1),
		made(0, 1, 1),
		made(3, 0, 2, 3),
		made(0, 2, 255, 256, 257),
		made(2, 1, 1, 1, 1, 1, 1, 1),
		made(1, 2, 1024, 1024, 1024, 1024),
	}
}

// notValid returns schemas that are not valid, one for each reason and more.
func notValid() []api.Schema {
	same, name, view := example(), example(), example()
	same.Ints[0] = "a"
	name.Dims[0].Name = "sum"
	view.Views = []uint32{1}
	return []api.Schema{
		{},
		{Dims: []api.Dim{}, Ints: []string{"m"}},
		made(0, 0, 1, 1, 1, 1, 1, 1, 1),
		made(4, 0, 2),
		made(1, 3, 2),
		same,
		name,
		view,
		made(1, 1, 0),
		made(1, 1, 2, -1),
		made(1, 1, 4097),
		made(1, 1, math.MaxInt),
		made(1, 1, math.MinInt),
		made(1, 0, 4096, 4096, 4096, 4096),
	}
}

// integers and floats are the numbers that facts here have.
func integers() []int64 {
	return []int64{
		0, 1, -1, -3, 3, 127, -128, 255, 256, -255, -256, -257, 65535, 1 << 32, -1 << 32, 1<<53 + 1,
		math.MaxInt64, math.MaxInt64 - 1, math.MinInt64, math.MinInt64 + 1, math.MaxInt32, math.MinInt32,
	}
}

func floats() []float64 {
	return []float64{
		0, math.Copysign(0, -1), 1, -1, 0.1, -0.1, 2.5, 1 << 53, math.Pi, math.SmallestNonzeroFloat64, -math.SmallestNonzeroFloat64,
		0x1p-1022, math.MaxFloat64, -math.MaxFloat64, math.Inf(1), math.Inf(-1), math.NaN(), strangeNaN(),
	}
}

// strangeNaN returns a NaN of other bits than math.NaN: negative, and with a payload.
func strangeNaN() float64 {
	return math.Float64frombits(0xfff0000000000007)
}

// fact returns a valid fact.
func (m *mixer) fact(s api.Schema) api.Fact {
	var f api.Fact
	for _, d := range s.Dims {
		f.Codes = append(f.Codes, of(m, []int{0, d.Size - 1, m.below(d.Size), m.below(d.Size)}))
	}
	for range s.Ints {
		f.Ints = append(f.Ints, of(m, append(integers(), int64(m.long())>>m.below(64))))
	}
	for range s.Nums {
		f.Nums = append(f.Nums, of(m, append(floats(), math.Float64frombits(m.long()), float64(m.below(100)))))
	}
	return f
}

// batch returns n valid facts.
func (m *mixer) batch(s api.Schema, n int) []api.Fact {
	var l []api.Fact
	for range n {
		l = append(l, m.fact(s))
	}
	return l
}

// spoil makes a change to a fact that is often a fault.
func (m *mixer) spoil(f *api.Fact) {
	switch m.below(8) {
	case 0:
		f.Codes = append(f.Codes, m.below(3)-1)
	case 1:
		f.Ints = append(f.Ints, 7)
	case 2:
		f.Nums = append(f.Nums, 7)
	case 3:
		f.Codes = f.Codes[min(1, len(f.Codes)):]
	case 4:
		f.Ints, f.Nums = f.Ints[:len(f.Ints)/2], f.Nums[:len(f.Nums)/2]
	default:
		if len(f.Codes) > 0 {
			f.Codes[m.below(len(f.Codes))] = of(m, badCodes())
		}
	}
}

// mixed returns a mixed fact, which is valid about half of the time if s is. Those for
// a schema that is not valid are of another one.
func (m *mixer) mixed(s api.Schema) api.Fact {
	if schema.Check(s) != api.OK {
		s = of(m, samples())
	}
	f := m.fact(s)
	for range m.below(3) {
		m.spoil(&f)
	}
	return f
}

// mixedBatch returns mixed facts, of which few or none are not valid if s is, and
// sometimes none at all or too many.
func (m *mixer) mixedBatch(s api.Schema) []api.Fact {
	if schema.Check(s) != api.OK {
		s = of(m, samples())
	}
	l := m.batch(s, of(m, []int{m.below(3), m.below(10), m.below(10), m.below(10), 199 + m.below(4)}))
	for range m.below(3) {
		if len(l) > 0 {
			m.spoil(&l[m.below(len(l))])
		}
	}
	return l
}

// badCodes returns codes that no dimension has, and some that many have.
func badCodes() []int {
	return []int{-1, -2, -4096, math.MinInt, math.MinInt32, 4096, 4097, 1 << 16, 1 << 32, 1<<32 + 1, math.MaxInt, 1, 300}
}

// clone returns the same fact in memory of its own.
func clone(f api.Fact) api.Fact {
	return api.Fact{Codes: slices.Clone(f.Codes), Ints: slices.Clone(f.Ints), Nums: slices.Clone(f.Nums)}
}

// cloneAll returns the same facts in memory of their own.
func cloneAll(l []api.Fact) []api.Fact {
	var c []api.Fact
	for _, f := range l {
		c = append(c, clone(f))
	}
	return c
}

// equalFacts reports whether two lists have the same facts.
func equalFacts(a, b []api.Fact) bool {
	return slices.EqualFunc(a, b, defineSame)
}

// bits reports whether two facts are the same to the last bit of each NaN.
func bits(a, b api.Fact) bool {
	return slices.Equal(a.Codes, b.Codes) && slices.Equal(a.Ints, b.Ints) &&
		slices.EqualFunc(a.Nums, b.Nums, func(x, y float64) bool { return math.Float64bits(x) == math.Float64bits(y) })
}

// brief returns a list, or of a long one the beginning, for a message.
func brief[E any](l []E) []E {
	return l[:min(len(l), 30)]
}

// text returns a schema for a message.
func text(s api.Schema) string {
	return fmt.Sprintf("{%v %d Ints %d Nums %d}", brief(s.Dims), len(s.Ints), len(s.Nums), brief(s.Views))
}

// textOf returns facts for a message.
func textOf(l ...api.Fact) string {
	return fmt.Sprintf("%d facts %v", len(l), l[:min(len(l), 4)])
}

// settle ends a test that has failed, so that one fault is not told thousands of
// times.
func settle(t *testing.T) {
	t.Helper()
	if t.Failed() {
		t.FailNow()
	}
}
