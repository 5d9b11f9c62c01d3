package names_test

import (
	"slices"
	"strings"
	"testing"

	"bushel/names"
)

// Promise 10.1: each reserved word is one, and no name.
func TestWordOfEachWord(t *testing.T) {
	for _, s := range strings.Fields(reserved) {
		checkWord(t, s, true)
		checkIs(t, s, false)
		// The same bytes in memory of their own.
		checkWord(t, strings.Clone(s), true)
		checkIs(t, strings.Clone(s), false)
	}
}

// Promise 10.1: the reserved words with any byte more, in any place.
func TestWordWithByteMore(t *testing.T) {
	for _, s := range strings.Fields(reserved) {
		for i := range len(s) + 1 {
			for c := range 256 {
				checkText(t, insert(s, i, string([]byte{byte(c)})))
			}
		}
		checkIs(t, s+"s", true)
		checkWord(t, s+"s", false)
		checkIs(t, "q"+s, true)
		checkWord(t, "q"+s, false)
	}
}

// Promise 10.1: the reserved words with a byte less, of which only min without its
// first is a reserved word again.
func TestWordWithByteLess(t *testing.T) {
	for _, s := range strings.Fields(reserved) {
		for i := range len(s) {
			less := replace(s, i, "")
			again := s == "min" && i == 0
			checkIs(t, less, !again)
			checkWord(t, less, again)
		}
	}
}

// Promise 10.1: the reserved words with another byte, in any place.
func TestWordWithOtherByte(t *testing.T) {
	for _, s := range strings.Fields(reserved) {
		for i := range len(s) {
			for c := range 256 {
				checkText(t, replace(s, i, string([]byte{byte(c)})))
			}
		}
	}
}

// Promise 10.1: the reserved words with capital letters are neither reserved words
// nor names.
func TestWordWithCapitals(t *testing.T) {
	for _, s := range strings.Fields(reserved) {
		for i := range len(s) {
			capital := replace(s, i, strings.ToUpper(s[i:i+1]))
			checkWord(t, capital, false)
			checkIs(t, capital, false)
		}
		checkWord(t, strings.ToUpper(s), false)
		checkIs(t, strings.ToUpper(s), false)
	}
}

// Promise 10.1: what is made of several reserved words is none.
func TestWordsTogether(t *testing.T) {
	for _, a := range strings.Fields(reserved) {
		for _, b := range strings.Fields(reserved) {
			for _, between := range []string{"", "_", "0", " ", ",", "\n", "\x00"} {
				checkText(t, a+between+b)
				checkWord(t, a+between+b, false)
			}
		}
	}
	checkText(t, reserved)
	checkText(t, strings.ReplaceAll(reserved, " ", ""))
}

// Promise 10.1: what stands between reserved words, or is a word elsewhere, is no
// reserved word.
func TestWordOfOtherTexts(t *testing.T) {
	for _, s := range []string{
		"", " ", "\x00", "_", "0", "a", "z", "andz", "asd", "bx", "bz", "from", "group",
		"having", "or", "not", "avg", "std", "var", "end", "word", "name", "number", "sign",
		"between", "like", "is", "null", "price_2", "zzz", "\xff", strings.Repeat("sum", 1000),
	} {
		checkWord(t, s, false)
		checkText(t, s)
	}
}

// Promise 10.1: Words holds the reserved words, in lexicographic order, each once.
func TestWords(t *testing.T) {
	words := names.Words()
	if want := strings.Fields(reserved); !slices.Equal(words, want) {
		t.Errorf("Words is %q; want %q", words, want)
	}
	if len(words) != 16 {
		t.Errorf("Words has %d elements; want 16", len(words))
	}
	for i, s := range words {
		if i > 0 && words[i-1] >= s {
			t.Errorf("%q stands behind %q", s, words[i-1])
		}
		checkWord(t, s, true)
		checkIs(t, s, false)
	}
}
