package names_test

import (
	"regexp"
	"slices"
	"strings"
	"testing"

	"bushel/names"
)

// reserved holds the reserved words as the chapter lists them.
const reserved = "and asc by count desc dev in limit max mean min order select share sum where"

// form is what the chapter says of a name's bytes.
var form = regexp.MustCompile(`^[a-z][a-z0-9_]{0,15}$`)

// The definitions below follow the chapter word by word.

// defineWord returns what Word must.
func defineWord(s string) bool {
	return slices.Contains(strings.Fields(reserved), s)
}

// defineIs returns what Is must.
func defineIs(s string) bool {
	return form.MatchString(s) && !defineWord(s)
}

// definePlace returns what Place must.
func definePlace(l []string, s string) int {
	place := -1
	for i := len(l) - 1; i >= 0; i-- {
		if l[i] == s {
			place = i
		}
	}
	return place
}

// defineTwice returns what Twice must.
func defineTwice(l []string) int {
	for i := range l {
		for earlier := range i {
			if l[earlier] == l[i] {
				return i
			}
		}
	}
	return -1
}

// brief returns the beginning of a text.
func brief(s string) string {
	return s[:min(len(s), 40)]
}

// checkIs fails if Is does not return want.
func checkIs(t *testing.T, s string, want bool) {
	t.Helper()
	if names.Is(s) != want {
		t.Errorf("Is(%q) is %v", brief(s), !want)
	}
}

// checkWord fails if Word does not return want.
func checkWord(t *testing.T, s string, want bool) {
	t.Helper()
	if names.Word(s) != want {
		t.Errorf("Word(%q) is %v", brief(s), !want)
	}
}

// checkText fails if Is or Word of s is not as defined.
func checkText(t *testing.T, s string) {
	t.Helper()
	checkIs(t, s, defineIs(s))
	checkWord(t, s, defineWord(s))
}

// checkPlace fails if Place does not return want.
func checkPlace(t *testing.T, l []string, s string, want int) {
	t.Helper()
	if got := names.Place(l, s); got != want {
		t.Errorf("Place(%q.., %q) of %d elements is %d; want %d", l[:min(len(l), 8)], brief(s), len(l), got, want)
	}
}

// checkTwice fails if Twice does not return want.
func checkTwice(t *testing.T, l []string, want int) {
	t.Helper()
	if got := names.Twice(l); got != want {
		t.Errorf("Twice(%q..) of %d elements is %d; want %d", l[:min(len(l), 8)], len(l), got, want)
	}
}

// insert returns s with more at the index i.
func insert(s string, i int, more string) string {
	return s[:i] + more + s[i:]
}

// replace returns s with more in place of the byte at the index i.
func replace(s string, i int, more string) string {
	return s[:i] + more + s[i+1:]
}
