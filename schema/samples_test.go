package schema_test

import (
	"fmt"
	"math"
	"slices"
	"strconv"
	"strings"
	"testing"

	"bushel/api"
	"bushel/schema"
)

// mixer makes the same numbers in every run.
type mixer uint64

func (m *mixer) word() uint32 {
	*m = *m*6364136223846793005 + 1442695040888963407
	return uint32(*m >> 32)
}

// below returns a number from 0 to n - 1.
func (m *mixer) below(n int) int {
	return int(m.word() % uint32(n))
}

// dims returns dimensions of these Sizes, with the names d0, d1 and so on.
func dims(sizes ...int) []api.Dim {
	var l []api.Dim
	for i, size := range sizes {
		l = append(l, api.Dim{Name: "d" + strconv.Itoa(i), Size: size})
	}
	return l
}

// named returns n names: the letter and the numbers from 0 on.
func named(letter string, n int) []string {
	var l []string
	for i := range n {
		l = append(l, letter+strconv.Itoa(i))
	}
	return l
}

// views returns the numbers from first to last.
func views(first, last uint32) []uint32 {
	var l []uint32
	for v := first; v <= last; v++ {
		l = append(l, v)
	}
	return l
}

// example returns the chapter's example.
func example() api.Schema {
	return api.Schema{Dims: []api.Dim{{Name: "a", Size: 2}, {Name: "b", Size: 3}}, Views: []uint32{1}}
}

// greatest returns a schema with as many of everything as there may be.
func greatest() api.Schema {
	return api.Schema{Dims: dims(2, 3, 4, 5, 6, 7), Ints: named("i", 3), Nums: named("n", 2), Views: views(0, 14)}
}

// samples returns valid schemas, which all differ.
func samples() []api.Schema {
	long := strings.Repeat("z", 15)
	return []api.Schema{
		example(),
		greatest(),
		{Dims: dims(1)},
		{Dims: dims(4096)},
		{Dims: dims(1), Views: []uint32{0}},
		{Dims: dims(1), Ints: named("i", 1)},
		{Dims: dims(1), Nums: named("i", 1)},
		{Dims: dims(1), Nums: named("n", 2)},
		{Dims: dims(1, 1), Views: views(0, 2)},
		{Dims: dims(1, 1, 1), Views: views(0, 6)},
		{Dims: dims(255, 256, 257), Ints: named("i", 3), Views: []uint32{3, 4}},
		{Dims: dims(2, 3, 4, 5), Ints: named("i", 2), Nums: named("n", 1), Views: []uint32{1, 2, 4, 8, 14}},
		{Dims: dims(1, 1, 1, 1, 1, 1), Views: views(48, 62)},
		{Dims: dims(4096, 16, 1, 4096, 1, 4096), Views: []uint32{0, 62}},
		{Dims: dims(1024, 1024, 1024, 1024), Nums: named("n", 2), Views: []uint32{7}},
		{Dims: []api.Dim{{Name: long + "a", Size: 2}, {Name: long + "b", Size: 3}}, Ints: []string{long + "_"}, Nums: []string{long + "9"}},
		{Dims: []api.Dim{{Name: "sums", Size: 9}, {Name: "b_y", Size: 8}, {Name: "z", Size: 7}}, Ints: []string{"zz", "a"}, Nums: []string{"price_2"}, Views: []uint32{5}},
	}
}

// places returns where all the names of a schema stand.
func places(s *api.Schema) []*string {
	var l []*string
	for i := range s.Dims {
		l = append(l, &s.Dims[i].Name)
	}
	for i := range s.Ints {
		l = append(l, &s.Ints[i])
	}
	for i := range s.Nums {
		l = append(l, &s.Nums[i])
	}
	return l
}

// clone returns the same schema in memory of its own.
func clone(s api.Schema) api.Schema {
	return api.Schema{Dims: slices.Clone(s.Dims), Ints: slices.Clone(s.Ints), Nums: slices.Clone(s.Nums), Views: slices.Clone(s.Views)}
}

// equal reports whether two schemas are equal; lists that are nil are equal to those
// that are empty.
func equal(a, b api.Schema) bool {
	return slices.Equal(a.Dims, b.Dims) && slices.Equal(a.Ints, b.Ints) && slices.Equal(a.Nums, b.Nums) && slices.Equal(a.Views, b.Views)
}

// brief returns a list, or of a long one the beginning, for a message.
func brief[E any](l []E) []E {
	return l[:min(len(l), 40)]
}

// text returns a schema for a message.
func text(s api.Schema) string {
	var l []string
	for _, d := range brief(s.Dims) {
		l = append(l, fmt.Sprintf("%.40q of %d", d.Name, d.Size))
	}
	return fmt.Sprintf("%s %.40q %.40q %d", l, brief(s.Ints), brief(s.Nums), brief(s.Views))
}

// valid returns a mixed schema that is valid.
func (m *mixer) valid() api.Schema {
	var sizes []int
	keys := 1
	for range 1 + m.below(6) {
		size := 1 + m.below(4096)>>m.below(13)
		size = min(size, 1<<40/keys)
		keys *= size
		sizes = append(sizes, size)
	}
	s := api.Schema{Dims: dims(sizes...), Ints: named("i", m.below(4)), Nums: named("n", m.below(3))}
	for v := range uint32(1)<<len(sizes) - 1 {
		if len(s.Views) < 15 && m.below(3) == 0 {
			s.Views = append(s.Views, v)
		}
	}
	return s
}

// spoil makes a change to a schema that is often a fault.
func (m *mixer) spoil(s *api.Schema) {
	all := places(s)
	bad := badNames()
	switch m.below(12) {
	case 0:
		s.Dims = append(s.Dims, dims(1, 1, 1, 1, 1, 1, 1)[m.below(7):]...)
	case 1:
		s.Dims = s.Dims[m.below(len(s.Dims)+1):]
	case 2:
		s.Ints = append(s.Ints, named("x", m.below(4))...)
	case 3:
		s.Nums = append(s.Nums, named("y", m.below(4))...)
	case 4:
		s.Views = append(s.Views, views(7, 7+uint32(m.below(12)))...)
	case 5, 6:
		if len(all) > 0 {
			*all[m.below(len(all))] = bad[m.below(len(bad))]
		}
	case 7:
		if len(all) > 0 {
			*all[m.below(len(all))] = *all[m.below(len(all))]
		}
	case 8, 9:
		if len(s.Dims) > 0 {
			s.Dims[m.below(len(s.Dims))].Size = []int{0, -1, 4096, 4097, 65537, math.MaxInt, math.MinInt}[m.below(7)]
		}
	case 10:
		if len(s.Views) > 0 {
			s.Views[m.below(len(s.Views))] = m.word() >> m.below(32)
		}
	case 11:
		slices.Reverse(s.Views)
	}
}

// mixed returns a mixed schema, about half of which are valid.
func (m *mixer) mixed() api.Schema {
	s := m.valid()
	for range m.below(3) {
		m.spoil(&s)
	}
	return s
}

// badNames returns texts that are no names.
func badNames() []string {
	return []string{
		"", " ", "A", "aB", "2a", "_a", "a b", "a-b", "a\x00", "\x00", "é", "aé", "\xff", "a\xff",
		"sum", "and", "where", "by", "count", strings.Repeat("a", 17), strings.Repeat("\x00", 16), strings.Repeat("a", 256+3),
	}
}

// settle ends a test that has failed, so that one fault is not told thousands of
// times.
func settle(t *testing.T) {
	t.Helper()
	if t.Failed() {
		t.FailNow()
	}
}

// checkSchema fails if got is not this schema.
func checkSchema(t *testing.T, got, want api.Schema, name string) {
	t.Helper()
	if !equal(got, want) {
		t.Errorf("%s: the schema is %s; want %s", name, text(got), text(want))
	}
}

// checkError fails if Check does not return this error, or if any other function
// does not do with s what it must with a schema of this error.
func checkError(t *testing.T, s api.Schema, want api.Errno) {
	t.Helper()
	defer settle(t)
	if got := schema.Check(s); got != want {
		t.Errorf("Check of %s = %d; want %d", text(s), got, want)
	}
	if want != api.OK {
		checkRefused(t, s, want)
		return
	}
	if got := schema.Full(s); got != 1<<len(s.Dims)-1 {
		t.Errorf("Full of %s = %d", text(s), got)
	}
	if b, errno := schema.Put(s); len(b) == 0 || errno != api.OK {
		t.Errorf("Put of %s = %d, %d", text(s), b, errno)
	}
}

// checkRefused fails if a function returns anything of a schema that is not valid.
func checkRefused(t *testing.T, s api.Schema, errno api.Errno) {
	t.Helper()
	if got := schema.Full(s); got != 0 {
		t.Errorf("Full of %s = %d; want 0", text(s), got)
	}
	if got := schema.Views(s); len(got) != 0 {
		t.Errorf("Views of %s = %d; want none", text(s), got)
	}
	for _, mask := range []uint32{0, 1, 2, 3, 7, 63, 64, 1 << 31, math.MaxUint32} {
		if got, ok := schema.Keys(s, mask); got != 0 || ok {
			t.Errorf("Keys(%s, %d) = %d, %v; want 0, false", text(s), mask, got, ok)
		}
	}
	for _, name := range brief(places(&s)) {
		checkFind(t, s, *name, 0, 0)
	}
	checkFind(t, s, "", 0, 0)
	checkFind(t, s, "d0", 0, 0)
	if b, got := schema.Put(s); len(b) != 0 || got != errno {
		t.Errorf("Put of %s = %d, %d; want no bytes, %d", text(s), b, got, errno)
	}
}

// checkFind fails if Find does not return this kind and this index.
func checkFind(t *testing.T, s api.Schema, name string, kind, index int) {
	t.Helper()
	if gotKind, gotIndex := schema.Find(s, name); gotKind != kind || gotIndex != index {
		t.Errorf("Find(%s, %.40q) = %d, %d; want %d, %d", text(s), name, gotKind, gotIndex, kind, index)
	}
}
