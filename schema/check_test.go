package schema_test

import (
	"math"
	"slices"
	"strings"
	"testing"

	"bushel/api"
)

// Promise 11.1: the chapter's example, and other valid schemas.
func TestCheckValid(t *testing.T) {
	for _, s := range samples() {
		checkError(t, s, api.OK)
	}
}

// Promise 11.1: the zero schema, and empty lists.
func TestCheckNothing(t *testing.T) {
	checkError(t, api.Schema{}, api.ErrMany)
	checkError(t, api.Schema{Dims: []api.Dim{}, Ints: []string{}, Nums: []string{}, Views: []uint32{}}, api.ErrMany)
	checkError(t, api.Schema{Ints: named("i", 1), Nums: named("n", 1)}, api.ErrMany)
	checkError(t, api.Schema{Views: []uint32{0}}, api.ErrMany)
	checkError(t, api.Schema{Dims: dims(2), Ints: []string{}, Nums: []string{}, Views: []uint32{}}, api.OK)
}

// few returns OK if n is not above most, and otherwise ErrMany.
func few(n, most int) api.Errno {
	if n > most {
		return api.ErrMany
	}
	return api.OK
}

// Promise 11.1: how many there may be of everything.
func TestCheckMany(t *testing.T) {
	for _, n := range []int{1, 2, 3, 4, 5, 6, 7, 8, 15, 16, 17, 31, 32, 33, 63, 64, 65, 256, 257, 258, 65537} {
		s := greatest()
		s.Dims, s.Views = dims(slices.Repeat([]int{1}, n)...), nil
		checkError(t, s, few(n, 6))
		s = greatest()
		s.Ints = named("i", n)
		checkError(t, s, few(n, 3))
		s = greatest()
		s.Nums = named("n", n)
		checkError(t, s, few(n, 2))
		s = greatest()
		s.Views = views(0, uint32(n-1))
		checkError(t, s, few(n, 15))
	}
}

// Promise 11.1: texts that are no names in each place, and names in each.
func TestCheckName(t *testing.T) {
	all := greatest()
	for i := range places(&all) {
		for _, bad := range badNames() {
			s := greatest()
			*places(&s)[i] = bad
			checkError(t, s, api.ErrName)
		}
		for _, name := range []string{"a", "z", "a_", "a0", "sums", "su", "by_", strings.Repeat("q", 16)} {
			s := greatest()
			*places(&s)[i] = name
			checkError(t, s, api.OK)
		}
	}
}

// Promise 11.1: equal names in any two places, in memory of their own; and names that
// differ in the last byte, or by one byte more.
func TestCheckTwice(t *testing.T) {
	all := greatest()
	for i := range places(&all) {
		for j := range i {
			for _, name := range []string{"a", "price_2", strings.Repeat("q", 16)} {
				s := greatest()
				*places(&s)[i], *places(&s)[j] = name, strings.Clone(name)
				checkError(t, s, api.ErrTwice)
				*places(&s)[j] = name[:len(name)-1] + "b"
				checkError(t, s, api.OK)
			}
			s := greatest()
			*places(&s)[i], *places(&s)[j] = "a", "aa"
			checkError(t, s, api.OK)
			s = greatest()
			*places(&s)[i] = *places(&s)[j]
			checkError(t, s, api.ErrTwice)
		}
	}
}

// Promise 11.1: more than two equal names, and equal texts that are no names.
func TestCheckTwiceOfMany(t *testing.T) {
	s := greatest()
	for _, name := range places(&s) {
		*name = "a"
	}
	checkError(t, s, api.ErrTwice)
	for _, name := range places(&s) {
		*name = "sum"
	}
	checkError(t, s, api.ErrName)
	for _, name := range places(&s) {
		*name = ""
	}
	checkError(t, s, api.ErrName)
	// A dimension is found again by its name alone.
	checkError(t, api.Schema{Dims: []api.Dim{{Name: "a", Size: 2}, {Name: "a", Size: 3}}}, api.ErrTwice)
	checkError(t, api.Schema{Dims: []api.Dim{{Name: "a", Size: 2}, {Name: "b", Size: 2}}}, api.OK)
}

// Promise 11.1: Sizes at both ends and beyond, of each dimension.
func TestCheckSize(t *testing.T) {
	for n := 1; n <= 6; n++ {
		for i := range n {
			s := api.Schema{Dims: dims(slices.Repeat([]int{1}, n)...)}
			for _, size := range []int{1, 2, 255, 256, 4095, 4096} {
				s.Dims[i].Size = size
				checkError(t, s, api.OK)
			}
			for _, size := range []int{
				0, -1, -2, -4096, math.MinInt32, math.MinInt, math.MinInt + 1, 4097, 4098, 8192, 1 << 16, 1<<16 + 1,
				math.MaxInt32, 1 << 32, 1<<32 + 1, 1 << 40, 1<<40 + 1, 1 << 62, math.MaxInt - 1, math.MaxInt,
			} {
				s.Dims[i].Size = size
				checkError(t, s, api.ErrRange)
			}
		}
	}
}

// Promise 11.1: Sizes whose product would be in its range, but which are not in
// theirs.
func TestCheckSizeOfFewKeys(t *testing.T) {
	for _, sizes := range [][]int{
		{0, 0}, {-1, -1}, {-2, 3, -4}, {0, 4096, 4096, 4096, 4096}, {4096, 4096, 4096, 4096, 0},
		{4097, 0}, {4097, 4097}, {1 << 20, 1 << 20}, {1 << 40}, {1 << 32, 1 << 32, 1}, {math.MinInt, math.MinInt}, {-1, 4097, -1},
	} {
		checkError(t, api.Schema{Dims: dims(sizes...)}, api.ErrRange)
	}
}

// Promise 11.1: products of Sizes at MaxKeys, near it on both sides, and where 64
// bits would hold a small number, or a negative one; the Sizes in any order.
func TestCheckProduct(t *testing.T) {
	for _, c := range []struct {
		want  api.Errno
		sizes []int
	}{
		{api.OK, []int{4096, 4096, 4096, 16, 1, 1}},
		{api.OK, []int{1024, 1024, 1024, 1024}},
		{api.OK, []int{4096, 4096, 2, 2048, 4, 4}},
		// 2^40 - 16, and 2^32 + 4.
		{api.OK, []int{4033, 2774, 4095, 24}},
		{api.OK, []int{2642, 2501, 650}},
		{api.OK, []int{4096, 4096, 4096}},
		// 2^40 + 61, 2^40 + 2^36, 2^41 and 2^48.
		{api.ErrRange, []int{2273, 3007, 3283, 49}},
		{api.ErrRange, []int{4096, 4096, 4096, 17}},
		{api.ErrRange, []int{4096, 4096, 4096, 16, 2}},
		{api.ErrRange, []int{4096, 4096, 4096, 4096, 1}},
		// 2^63, 2^63 + 3232, 2^64 - 16, 2^64, 2^64 + 6464 and 2^72.
		{api.ErrRange, []int{4096, 4096, 4096, 4096, 4096, 8}},
		{api.ErrRange, []int{2577, 2577, 3805, 3272, 668, 167}},
		{api.ErrRange, []int{3963, 3641, 3926, 2501, 3255, 40}},
		{api.ErrRange, []int{4096, 4096, 4096, 4096, 4096, 16}},
		{api.ErrRange, []int{2577, 2577, 3805, 3272, 1336, 167}},
		{api.ErrRange, []int{4096, 4096, 4096, 4096, 4096, 4096}},
	} {
		for i := range c.sizes {
			turned := slices.Concat(c.sizes[i:], c.sizes[:i])
			checkError(t, api.Schema{Dims: dims(turned...)}, c.want)
			slices.Reverse(turned)
			checkError(t, api.Schema{Dims: dims(turned...)}, c.want)
		}
	}
}

// Promise 11.1: one view, of any bits: those of dimensions, others, and all.
func TestCheckView(t *testing.T) {
	for n := 1; n <= 6; n++ {
		s := api.Schema{Dims: dims(slices.Repeat([]int{2}, n)...)}
		for v := range uint32(200) {
			s.Views = []uint32{v}
			want := api.ErrForm
			if v < 1<<n-1 {
				want = api.OK
			}
			checkError(t, s, want)
			for bit := n; bit < 32; bit++ {
				s.Views = []uint32{v | 1<<bit}
				checkError(t, s, api.ErrForm)
			}
		}
		for _, v := range []uint32{1 << 30, 1 << 31, math.MaxInt32, math.MaxUint32, math.MaxUint32 << n} {
			s.Views = []uint32{v}
			checkError(t, s, api.ErrForm)
		}
	}
}

// Promise 11.1: what is wrong with a view in each place of the longest list.
func TestCheckViewInEachPlace(t *testing.T) {
	for i := range 15 {
		for _, v := range []uint32{63, 64, 64 | 20, 1 << 31, math.MaxUint32} {
			s := greatest()
			s.Views[i] = v
			checkError(t, s, api.ErrForm)
		}
		if i == 0 {
			continue
		}
		s := greatest()
		s.Views[i] = s.Views[i-1]
		checkError(t, s, api.ErrForm)
		s = greatest()
		s.Views[i], s.Views[i-1] = s.Views[i-1], s.Views[i]
		checkError(t, s, api.ErrForm)
		s = greatest()
		s.Views[i] = 0
		checkError(t, s, api.ErrForm)
	}
}

// Promise 11.1: views written out.
func TestCheckViewsWritten(t *testing.T) {
	for _, c := range []struct {
		want  api.Errno
		views []uint32
	}{
		{api.OK, nil},
		{api.OK, []uint32{0}},
		{api.OK, []uint32{6}},
		{api.OK, []uint32{0, 1}},
		{api.OK, []uint32{0, 6}},
		{api.OK, []uint32{1, 2, 4}},
		{api.OK, []uint32{3, 4}},
		{api.OK, []uint32{0, 1, 2, 3, 4, 5, 6}},
		{api.ErrForm, []uint32{7}},
		{api.ErrForm, []uint32{8}},
		{api.ErrForm, []uint32{9}},
		{api.ErrForm, []uint32{0, 0}},
		{api.ErrForm, []uint32{1, 0}},
		{api.ErrForm, []uint32{5, 5}},
		{api.ErrForm, []uint32{4, 3}},
		{api.ErrForm, []uint32{1, 4, 2}},
		{api.ErrForm, []uint32{2, 1, 4}},
		{api.ErrForm, []uint32{1, 2, 2}},
		{api.ErrForm, []uint32{1, 2, 1}},
		{api.ErrForm, []uint32{1, 2, 0}},
		{api.ErrForm, []uint32{1, 2, 7}},
		{api.ErrForm, []uint32{7, 1, 2}},
		{api.ErrForm, []uint32{1, 2, 8}},
		{api.ErrForm, []uint32{0, 1, 2, 3, 4, 5, 6, 7}},
	} {
		checkError(t, api.Schema{Dims: dims(2, 3, 4), Views: c.views}, c.want)
	}
}

// Promise 11.1: all lists of two and of three views of few dimensions.
func TestCheckAllViews(t *testing.T) {
	for n := 1; n <= 3; n++ {
		s := api.Schema{Dims: dims(slices.Repeat([]int{2}, n)...)}
		for _, first := range views(0, 2<<n) {
			for _, second := range views(0, 2<<n) {
				s.Views = []uint32{first, second}
				checkDefined(t, s)
				for _, third := range views(0, 2<<n) {
					s.Views = []uint32{first, second, third}
					checkDefined(t, s)
				}
			}
		}
	}
}

// fault is a fault, and its error.
type fault struct {
	want api.Errno
	make func(*api.Schema)
}

// faults returns the faults of a schema with at least two of everything but six
// dimensions, by their errors in the chapter's order.
func faults() [][]fault {
	var all [][]fault
	add := func(want api.Errno, makers ...func(*api.Schema)) {
		l := []fault{{api.OK, func(*api.Schema) {}}}
		for _, f := range makers {
			l = append(l, fault{want, f})
		}
		all = append(all, l)
	}
	add(api.ErrMany,
		func(s *api.Schema) { s.Dims = nil },
		func(s *api.Schema) { s.Dims = append(s.Dims, s.Dims...) },
		func(s *api.Schema) { s.Ints = named("i", 4) },
		func(s *api.Schema) { s.Nums = named("n", 3) },
		func(s *api.Schema) { s.Views = views(0, 15) })
	add(api.ErrName,
		func(s *api.Schema) { s.Dims[0].Name = "" },
		func(s *api.Schema) { s.Dims[3].Name = "Sum" },
		func(s *api.Schema) { s.Ints[0] = "by" },
		func(s *api.Schema) { s.Ints[1] = "2a" },
		func(s *api.Schema) { s.Nums[0] = strings.Repeat("a", 17) },
		func(s *api.Schema) { s.Nums[1] = "\x00" })
	add(api.ErrTwice,
		func(s *api.Schema) { s.Dims[1].Name = s.Dims[0].Name },
		func(s *api.Schema) { s.Dims[3].Name = s.Ints[0] },
		func(s *api.Schema) { s.Dims[0].Name = s.Nums[1] },
		func(s *api.Schema) { s.Ints[1] = s.Ints[0] },
		func(s *api.Schema) { s.Ints[0] = s.Nums[0] },
		func(s *api.Schema) { s.Nums[1] = s.Nums[0] })
	add(api.ErrRange,
		func(s *api.Schema) { s.Dims[0].Size = 0 },
		func(s *api.Schema) { s.Dims[1].Size = -1 },
		func(s *api.Schema) { s.Dims[3].Size = 4097 },
		func(s *api.Schema) {
			for i := range s.Dims {
				s.Dims[i].Size = 4096
			}
		})
	add(api.ErrForm,
		func(s *api.Schema) { s.Views[0] = 16 },
		func(s *api.Schema) { s.Views[0] = 15 },
		func(s *api.Schema) { s.Views[1] = s.Views[0] },
		func(s *api.Schema) { s.Views[1] = 0 },
		func(s *api.Schema) { s.Views[1] = 1 << 31 })
	return all
}

// several makes every choice of at most one fault of each error, and passes on the
// schema and its error.
func several(f func(api.Schema, api.Errno)) {
	all := faults()
	for many := range all[0] {
		for name := range all[1] {
			for twice := range all[2] {
				for size := range all[3] {
					for view := range all[4] {
						f(faulty(all, []int{many, name, twice, size, view}))
					}
				}
			}
		}
	}
}

// faulty returns a schema with the chosen faults, and its error. The faults that
// come first in the chapter's order are made last, since those behind them may need
// what these take away.
func faulty(all [][]fault, chosen []int) (api.Schema, api.Errno) {
	s := api.Schema{Dims: dims(2, 3, 4, 5), Ints: named("i", 2), Nums: named("n", 2), Views: []uint32{1, 6}}
	want := api.OK
	for i, l := range slices.Backward(all) {
		f := l[chosen[i]]
		f.make(&s)
		if f.want != api.OK {
			want = f.want
		}
	}
	return s, want
}

// Promises 11.1 to 11.3: of several faults the first in the chapter's order decides,
// wherever they are.
func TestCheckSeveral(t *testing.T) {
	several(func(s api.Schema, want api.Errno) {
		checkError(t, s, want)
	})
}

// checkDefined fails if Check of s is not as defined.
func checkDefined(t *testing.T, s api.Schema) {
	t.Helper()
	checkError(t, s, defineCheck(s))
}

// Promise 11.1: mixed schemas, of which all errors come often.
func TestCheckMixed(t *testing.T) {
	m := mixer(11)
	count := map[api.Errno]int{}
	for range 30000 {
		s := m.mixed()
		checkDefined(t, s)
		count[defineCheck(s)]++
	}
	for _, errno := range []api.Errno{api.OK, api.ErrMany, api.ErrName, api.ErrTwice, api.ErrRange, api.ErrForm} {
		if count[errno] < 300 {
			t.Errorf("only %d mixed schemas have the error %d", count[errno], errno)
		}
	}
}
