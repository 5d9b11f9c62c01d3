package schema_test

import (
	"strings"
	"testing"

	"bushel/api"
)

// Promise 11.2: names of each kind, and of none.
func TestFind(t *testing.T) {
	s := api.Schema{Dims: []api.Dim{{Name: "year", Size: 9}, {Name: "region", Size: 5}}, Ints: []string{"units", "a", "price_2"}, Nums: []string{"weight", "z"}}
	for i, name := range []string{"year", "region"} {
		checkFind(t, s, name, 1, i)
		checkFind(t, s, strings.Clone(name), 1, i)
	}
	for i, name := range []string{"units", "a", "price_2"} {
		checkFind(t, s, name, 2, i)
	}
	for i, name := range []string{"weight", "z"} {
		checkFind(t, s, name, 3, i)
	}
	for _, name := range []string{
		"", " ", "b", "yea", "years", "Year", "YEAR", "ear", " year", "year ", "year\x00", "price", "price_22", "aa",
		"sum", "by", "0", "1", "\xff", "é", strings.Repeat("a", 17), strings.Repeat("a", 100000),
	} {
		checkFind(t, s, name, 0, 0)
	}
}

// Promise 11.2: each name of valid schemas, and without measures or views.
func TestFindInSamples(t *testing.T) {
	for _, s := range samples() {
		for i, d := range s.Dims {
			checkFind(t, s, d.Name, 1, i)
		}
		for i, name := range s.Ints {
			checkFind(t, s, name, 2, i)
		}
		for i, name := range s.Nums {
			checkFind(t, s, name, 3, i)
		}
		for _, name := range append(badNames(), "d9", "i9", "n9", "d", "i", "n", "dd0") {
			checkFind(t, s, name, 0, 0)
		}
	}
}

// Promise 11.2: a schema that is not valid has no name, whatever is asked, an
// empty one or one that occurs twice too.
func TestFindInInvalid(t *testing.T) {
	checkFind(t, api.Schema{}, "", 0, 0)
	checkFind(t, api.Schema{}, "a", 0, 0)
	checkFind(t, api.Schema{Dims: []api.Dim{{Name: "", Size: 2}}}, "", 0, 0)
	checkFind(t, api.Schema{Dims: []api.Dim{{Name: "sum", Size: 2}}}, "sum", 0, 0)
	checkFind(t, api.Schema{Ints: []string{"a"}}, "a", 0, 0)
	checkFind(t, api.Schema{Dims: dims(2, 0)}, "d0", 0, 0)
	checkFind(t, api.Schema{Dims: dims(2, 2), Ints: []string{"d1"}}, "d1", 0, 0)
	checkFind(t, api.Schema{Dims: dims(2, 2), Views: []uint32{3}}, "d1", 0, 0)
	checkFind(t, api.Schema{Dims: dims(2), Nums: named("n", 3)}, "n0", 0, 0)
}
