package names_test

import (
	"slices"
	"strconv"
	"strings"
	"testing"

	"bushel/names"
)

// alphabet holds elements that are close to one another: empty, with a byte more, of
// another case, and not UTF-8, so that only their bytes tell them apart.
func alphabet() []string {
	return []string{"", "a", "b", "aa", "A", "a ", "sum", "\x00", "a\x00", "\xff", "\xfe", "\ufffd", "é", "e\u0301"}
}

// numbered returns n different elements.
func numbered(n int) []string {
	l := make([]string, n)
	for i := range l {
		l[i] = "c" + strconv.Itoa(i)
	}
	return l
}

// lists produces all lists of at most n of the elements.
func lists(n int, elements []string) [][]string {
	all := [][]string{nil}
	last := all
	for range n {
		var longer [][]string
		for _, l := range last {
			for _, s := range elements {
				longer = append(longer, append(slices.Clone(l), s))
			}
		}
		all = append(all, longer...)
		last = longer
	}
	return all
}

// Promise 10.2: Place in no list.
func TestPlaceInNothing(t *testing.T) {
	for _, s := range alphabet() {
		checkPlace(t, nil, s, -1)
		checkPlace(t, []string{}, s, -1)
		checkPlace(t, []string{"q", s}[:0], s, -1)
	}
}

// Promise 10.2: Place of the first, the last and no element, and of elements that
// occur more than once.
func TestPlace(t *testing.T) {
	l := []string{"year", "region", "price_2", "region", "", "sum", "year", ""}
	checkPlace(t, l, "year", 0)
	checkPlace(t, l, "region", 1)
	checkPlace(t, l, "price_2", 2)
	checkPlace(t, l, "", 4)
	checkPlace(t, l, "sum", 5)
	checkPlace(t, l[:7], "sum", 5)
	checkPlace(t, l[:6], "sum", 5)
	checkPlace(t, l[:5], "sum", -1)
	checkPlace(t, l[1:], "year", 5)
	for _, s := range []string{"yea", "years", "Year", "ear", " ", "price", "price_", "price_22", "\x00"} {
		checkPlace(t, l, s, -1)
	}
	checkPlace(t, []string{"a"}, "a", 0)
	checkPlace(t, []string{"a"}, "", -1)
	checkPlace(t, []string{""}, "", 0)
	checkPlace(t, []string{"a", "a", "a"}, "a", 0)
	checkPlace(t, []string{"b", "a", "a"}, "a", 1)
}

// Promise 10.2: elements are equal if their bytes are, wherever these are.
func TestPlaceOfSameBytes(t *testing.T) {
	all := alphabet()
	for i, s := range all {
		checkPlace(t, all, strings.Clone(s), i)
		checkPlace(t, slices.Concat(all, all), s, i)
		checkPlace(t, all[:i], s, -1)
		checkPlace(t, all[i+1:], s, -1)
	}
}

// Promise 10.2: Place in long lists, and of long texts.
func TestPlaceInLongLists(t *testing.T) {
	l := numbered(3000)
	for _, i := range []int{0, 1, 127, 128, 255, 256, 2998, 2999} {
		checkPlace(t, l, "c"+strconv.Itoa(i), i)
	}
	checkPlace(t, l, "c3000", -1)
	long := strings.Repeat("a", 100000)
	checkPlace(t, []string{long[1:], long + "a", long[1:] + "b", long}, strings.Clone(long), 3)
}

// Promise 10.2: the chapter's example.
func TestTwiceExample(t *testing.T) {
	checkTwice(t, []string{"a", "b", "a", "b"}, 2)
}

// Promise 10.2: Twice of no list, of one element, and of elements that all differ.
func TestTwiceOfDifferentElements(t *testing.T) {
	checkTwice(t, nil, -1)
	checkTwice(t, []string{}, -1)
	checkTwice(t, []string{"a", "a"}[:0], -1)
	checkTwice(t, []string{"a", "a"}[:1], -1)
	for _, s := range alphabet() {
		checkTwice(t, []string{s}, -1)
	}
	checkTwice(t, []string{"a", "b"}, -1)
	checkTwice(t, []string{"b", "a"}, -1)
	checkTwice(t, alphabet(), -1)
	checkTwice(t, names.Words(), -1)
	checkTwice(t, numbered(20000), -1)
}

// Promise 10.2: the index of the first element that is equal to an earlier one.
func TestTwice(t *testing.T) {
	for _, c := range []struct {
		list string
		want int
	}{
		{"a a", 1}, {"a a b", 1}, {"b a a", 2}, {"a b a", 2}, {"a b b", 2}, {"a b c a", 3},
		{"a a a", 1}, {"b a a a", 2}, {"a b a a", 2}, {"a b c a b c", 3},
		{"a b b a", 2}, {"a a b b", 1}, {"a b c c b a", 3}, {"a b c d d a", 4}, {"a b c d a d", 4},
		{"b c a d c b a", 4}, {"year sum sum", 2}, {"A a", -1}, {"aa a", -1}, {"A a aa A", 3},
	} {
		checkTwice(t, strings.Fields(c.list), c.want)
	}
}

// Promise 10.2: Twice of empty strings, and of elements that are no names.
func TestTwiceOfNoNames(t *testing.T) {
	checkTwice(t, []string{"", ""}, 1)
	checkTwice(t, []string{"", "a", ""}, 2)
	checkTwice(t, []string{"a", "", ""}, 2)
	checkTwice(t, []string{"", "a", "a", ""}, 2)
	checkTwice(t, []string{"\xff", "\xfe"}, -1)
	checkTwice(t, []string{"\xff", "\ufffd", "\xfe", "\xff"}, 3)
	checkTwice(t, []string{"\x00", "", "\x00\x00", "\x00"}, 3)
	for _, s := range alphabet() {
		checkTwice(t, []string{s, strings.Clone(s)}, 1)
		checkTwice(t, []string{s, "another", "one", strings.Clone(s)}, 3)
		checkTwice(t, append(alphabet(), s), len(alphabet()))
	}
}

// Promise 10.2: equal elements that are next to one another, and far apart, in long
// lists.
func TestTwiceInLongLists(t *testing.T) {
	l := numbered(20000)
	for _, i := range []int{0, 1, 255, 256, 9999, 19999} {
		checkTwice(t, append(slices.Clone(l), l[i]), 20000)
		checkTwice(t, slices.Insert(slices.Clone(l), i, l[i]), i+1)
		checkTwice(t, slices.Concat(l, l[i:], l), 20000)
	}
	long := strings.Repeat("a", 100000)
	checkTwice(t, []string{long, long + "a", long[1:] + "b", strings.Clone(long)}, 3)
}

// Promise 10.2: all short lists.
func TestAllShortLists(t *testing.T) {
	elements := []string{"", "a", "b", "ab"}
	for _, l := range lists(6, elements) {
		checkTwice(t, l, defineTwice(l))
		for _, s := range elements {
			checkPlace(t, l, s, definePlace(l, s))
		}
		checkPlace(t, l, "c", -1)
	}
}
