package names_test

import (
	"strings"
	"testing"
)

// Promise 10.1: the chapter's examples.
func TestIsExamples(t *testing.T) {
	checkIs(t, "price_2", true)
	checkIs(t, "sum", false)
	checkIs(t, "2a", false)
	checkIs(t, "", false)
}

// Promise 10.1: names, written out.
func TestIsOfNames(t *testing.T) {
	for _, s := range []string{
		"a", "b", "y", "z", "aa", "az", "za", "zz", "a0", "a9", "z0", "z9", "a_", "z_",
		"a__", "a__b", "a_0", "a0_", "a09", "x2y", "year", "region", "from", "group",
		"sums", "su", "asum", "sum_", "sum0", "sum_by", "selects", "selec", "by1", "b_y",
		"abcdefghijklmnop", "zyxwvutsrqponmlk", "a_______________", "z999999999999999",
		"q0123456789_az_9", "selectselectsele",
	} {
		checkIs(t, s, true)
		checkWord(t, s, false)
	}
}

// Promise 10.1: texts that are neither names nor reserved words, written out.
func TestIsOfOtherTexts(t *testing.T) {
	for _, s := range []string{
		"", " ", "_", "__", "_a", "_0", "_sum", "0", "9", "00", "0a", "9z", "2sum",
		"A", "Z", "AB", "Aa", "aA", "aZ", "aBc", "Year", "yeaR", "camelCase",
		"a b", " a", "a ", "a\n", "\na", "a\t", "a\r", "a-b", "-a", "a.b", "a,b", "a=b",
		"(a)", "a(", "a:", "a/", "a`", "`a", "a{", "{a", "@a", "a@", "a[", "a^", "/a", ":a",
		"\x00", "\x00a", "a\x00", "a\x00b", "\x7f", "a\x7f", "\x80", "a\x80", "\xff", "\xffa", "a\xff",
		"é", "éa", "aé", "aéb", "ａ", "aａ", "a\u0301", "a\ufffd", "\ufeffa",
		"abcdefghijklmnopq", "a________________", "aaaaaaaaaaaaaaaaaaaaaaaaaaaaaaaa",
		"selectselectselec",
	} {
		checkIs(t, s, false)
		checkWord(t, s, false)
	}
}

// Promise 10.1: names have 1 to 16 bytes.
func TestIsOfEachLength(t *testing.T) {
	for n := range 300 {
		want := n >= 1 && n <= 16
		checkIs(t, strings.Repeat("a", n), want)
		checkIs(t, strings.Repeat("zy", n)[:n], want)
		checkIs(t, ("q" + strings.Repeat("_", n))[:n], want)
		checkIs(t, ("q" + strings.Repeat("07", n))[:n], want)
	}
	// Lengths whose lowest bits are those of a name's length.
	for _, n := range []int{1 << 8, 1 << 16, 1 << 24} {
		for more := range 20 {
			checkIs(t, strings.Repeat("a", n+more), false)
		}
	}
}

// Promise 10.1: the length is that in bytes, so that eight letters of two bytes are
// not a shorter name, and no letters at all.
func TestIsCountsBytes(t *testing.T) {
	for n := range 20 {
		checkIs(t, strings.Repeat("é", n), false)
		checkIs(t, "a"+strings.Repeat("é", n), n == 0)
		checkIs(t, strings.Repeat("a", n)+"é", false)
	}
}

// Promise 10.1: each byte, in each place of a name of each length.
func TestIsOfEachByte(t *testing.T) {
	for n := 1; n <= 17; n++ {
		name := strings.Repeat("q", n)
		for i := range n {
			for c := range 256 {
				letter := c >= 'a' && c <= 'z'
				later := letter || c >= '0' && c <= '9' || c == '_'
				want := n <= 16 && (letter || i > 0 && later)
				s := replace(name, i, string([]byte{byte(c)}))
				checkIs(t, s, want)
				checkWord(t, s, false)
			}
		}
	}
}

// Promise 10.1: the bytes next to the ranges, in the first place, in the middle and
// in the last.
func TestIsOfBytesNextToRanges(t *testing.T) {
	for _, c := range []string{"`", "{", "/", ":", "^", "@", "[", "\x00", "\x01", "\x7f", "\x80", "\xe1", "\xfa", "\xff"} {
		for _, s := range []string{c, c + "bc", "b" + c + "c", "bc" + c, c + c, c + "sum", "sum" + c, "su" + c + "m"} {
			checkIs(t, s, false)
			checkWord(t, s, false)
		}
	}
	for _, c := range []string{"0", "9", "_"} {
		checkIs(t, c, false)
		checkIs(t, c+"bc", false)
		checkIs(t, "b"+c+"c", true)
		checkIs(t, "bc"+c, true)
	}
	for _, c := range []string{"a", "z"} {
		checkIs(t, c, true)
		checkIs(t, c+"bc", true)
		checkIs(t, "b"+c+"c", true)
		checkIs(t, "bc"+c, true)
	}
}

// Promise 10.1: letters, digits and underscores outside ASCII, some of which Unicode
// holds to be other cases of ASCII's, in the first place, in the middle and in the
// last.
func TestIsOutsideASCII(t *testing.T) {
	for _, r := range []rune{
		'ä', 'ß', 'ª', 'º', 'α', 'я', 'ı', 'ſ', 0x212a, 0xff41, 0xff5a, 0xff21, 0x1d41a,
		'²', 0x0663, 0xff10, 0xff19, 0xff3f, 0x203f, 0x0161, 0x0130, 0x0100 + 'a', 0x10000 + 'z', 0xfffd,
	} {
		c := string(r)
		for _, s := range []string{c, c + "bc", "b" + c + "c", "bc" + c, c + c, c + "um", "a" + c + "c", "su" + c} {
			checkIs(t, s, false)
			checkWord(t, s, false)
		}
	}
}

// Promise 10.1: all texts of at most two bytes.
func TestAllShortTexts(t *testing.T) {
	checkText(t, "")
	for first := range 256 {
		checkText(t, string([]byte{byte(first)}))
		for second := range 256 {
			checkText(t, string([]byte{byte(first), byte(second)}))
		}
	}
}

// Promise 10.1: all texts of three and four bytes from those in which classes of
// bytes, and reserved words, begin and end.
func TestAllTextsOfEdges(t *testing.T) {
	edges := "abcdeimnsuvxyz09_A`{/:\x00\xff"
	for i := range len(edges) {
		for j := range len(edges) {
			for k := range len(edges) {
				s := string([]byte{edges[i], edges[j], edges[k]})
				checkText(t, s)
				checkText(t, s+"c")
				checkText(t, s+"n")
				checkText(t, s+"_")
			}
		}
	}
}
