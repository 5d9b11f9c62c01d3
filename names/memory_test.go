package names_test

import (
	"slices"
	"strings"
	"testing"

	"bushel/names"
)

// spoil writes over l, and over what stands behind it in its memory.
func spoil(l []string) {
	l = l[:cap(l)]
	for i := range l {
		l[i] = "spoilt"
	}
}

// within returns l at the beginning of memory that goes on behind it, and all of
// that memory.
func within(l []string) (part, whole []string) {
	whole = slices.Concat(l, []string{"a", "behind", "a", "behind", ""})
	return whole[:len(l)], whole
}

// checkStays fails if whole is no longer what within made of l.
func checkStays(t *testing.T, whole, l []string, name string) {
	t.Helper()
	if _, want := within(l); !slices.Equal(whole, want) {
		t.Errorf("%s changed its list %q, or what is behind it", name, l)
	}
}

// R4 for promise 10.2: Place leaves the list as it is, keeps none of it, and does
// not read behind its end.
func TestPlaceSharesNothing(t *testing.T) {
	for _, l := range lists(4, []string{"", "a", "b"}) {
		part, whole := within(l)
		for _, s := range []string{"", "a", "b", "behind"} {
			checkPlace(t, part, s, definePlace(l, s))
			checkStays(t, whole, l, "Place")
		}
		spoil(whole)
		for _, s := range []string{"", "a", "b", "behind"} {
			checkPlace(t, l, s, definePlace(l, s))
			checkPlace(t, part, s, -1)
		}
	}
}

// R4 for promise 10.2: Twice leaves the list as it is, keeps none of it, and does
// not read behind its end.
func TestTwiceSharesNothing(t *testing.T) {
	for _, l := range lists(4, []string{"", "a", "b"}) {
		part, whole := within(l)
		checkTwice(t, part, defineTwice(l))
		checkStays(t, whole, l, "Twice")
		spoil(whole)
		checkTwice(t, l, defineTwice(l))
		checkTwice(t, part, defineTwice(part))
	}
}

// R4 for promise 10.1: the list of Words belongs to the caller, and a change of it
// changes nothing else.
func TestWordsSharesNothing(t *testing.T) {
	want := strings.Fields(reserved)
	first, second := names.Words(), names.Words()
	_ = append(first, "more")
	spoil(first)
	clear(first[:3])
	if !slices.Equal(second, want) {
		t.Errorf("two lists of Words share memory: %q", second)
	}
	if l := names.Words(); !slices.Equal(l, want) {
		t.Errorf("Words is %q after a change of an earlier list", l)
	}
	for _, s := range want {
		checkWord(t, s, true)
		checkIs(t, s, false)
	}
	for _, s := range []string{"spoilt", "more"} {
		checkWord(t, s, false)
		checkIs(t, s, true)
	}
	checkWord(t, "", false)
	checkIs(t, "", false)
}

// R4 for promise 10.1: a list that was given to Place or Twice adds no reserved word
// and takes none away.
func TestListsAreNoWords(t *testing.T) {
	l := []string{"year", "sum", "year"}
	checkPlace(t, l, "sum", 1)
	checkTwice(t, l, 2)
	checkText(t, "year")
	checkText(t, "sum")
	words := names.Words()
	checkPlace(t, words, "sum", 14)
	checkTwice(t, words, -1)
	if !slices.Equal(words, strings.Fields(reserved)) {
		t.Errorf("Place or Twice changed its list: %q", words)
	}
}

// R5: the same arguments have the same results, whatever was asked in between.
func TestAskedAgain(t *testing.T) {
	for range 3 {
		checkTwice(t, []string{"a", "b"}, -1)
		checkTwice(t, []string{"b", "c"}, -1)
		checkTwice(t, []string{"a", "b", "a"}, 2)
		checkPlace(t, []string{"b", "a"}, "a", 1)
		checkPlace(t, []string{"a", "b"}, "a", 0)
		checkIs(t, "a", true)
		checkIs(t, "by", false)
		checkWord(t, "by", true)
		checkWord(t, "a", false)
		if l := names.Words(); !slices.Equal(l, strings.Fields(reserved)) {
			t.Errorf("Words is %q", l)
		}
	}
}
