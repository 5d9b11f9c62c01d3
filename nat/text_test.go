package nat_test

import (
	"slices"
	"strings"
	"testing"

	"bushel/nat"
)

// Promise 2.4.
func TestText(t *testing.T) {
	for _, c := range []struct {
		a    []uint32
		want string
	}{
		{nil, "0"},
		{[]uint32{}, "0"},
		{[]uint32{0}, "0"},
		{[]uint32{0, 0, 0}, "0"},
		{[]uint32{1}, "1"},
		{[]uint32{9, 0}, "9"},
		{[]uint32{10}, "10"},
		{[]uint32{100, 0, 0}, "100"},
		{[]uint32{999999999}, "999999999"},
		{[]uint32{1000000000}, "1000000000"},
		{[]uint32{1000000001}, "1000000001"},
		{[]uint32{top}, "4294967295"},
		{[]uint32{0, 1}, "4294967296"},
		{[]uint32{2808348672, 232830643}, "1000000000000000000"},
		{[]uint32{top, top}, "18446744073709551615"},
		{[]uint32{0, 0, 1}, "18446744073709551616"},
		{[]uint32{0, 0, 0, 0, 1}, "340282366920938463463374607431768211456"},
	} {
		if got := nat.Text(c.a); got != c.want {
			t.Errorf("Text(%v) = %q; want %q", c.a, got, c.want)
		}
	}
	for _, a := range numbers() {
		if got, want := nat.Text(a), string(decimalOf(a)); got != want {
			t.Errorf("Text(%v) = %q; want %q", a, got, want)
		}
	}
}

// Promise 2.4: Text has no limit, although Read has one.
func TestTextOfManyDigits(t *testing.T) {
	a, ok := nat.Shl([]uint32{1}, 8192)
	if got := nat.Text(a); !ok || got != string(twoTo(8192)) {
		t.Errorf("Text(2^8192) = %q", got)
	}
	if got, ok := nat.Read(nat.Text(a)); len(got) != 0 || ok {
		t.Errorf("Read of %d digits = %v, %t; want [], false", len(nat.Text(a)), got, ok)
	}
}

// Promise 2.4.
func TestRead(t *testing.T) {
	for _, c := range []struct {
		s    string
		want []uint32
	}{
		{"0", nil},
		{"1", []uint32{1}},
		{"9", []uint32{9}},
		{"10", []uint32{10}},
		{"4294967295", []uint32{top}},
		{"4294967296", []uint32{0, 1}},
		{"4294967297", []uint32{1, 1}},
		{"18446744073709551615", []uint32{top, top}},
		{"18446744073709551616", []uint32{0, 0, 1}},
		{"340282366920938463463374607431768211455", []uint32{top, top, top, top}},
	} {
		if got, ok := nat.Read(c.s); !slices.Equal(got, c.want) || !ok {
			t.Errorf("Read(%q) = %v, %t; want %v, true", c.s, got, ok, c.want)
		}
	}
	for _, a := range numbers() {
		if got, ok := nat.Read(string(decimalOf(a))); !slices.Equal(got, nat.Trim(a)) || !ok {
			t.Errorf("Read(%s) = %v, %t; want %v, true", decimalOf(a), got, ok, a)
		}
	}
}

// Promise 2.4: whatever is no number's Text.
func TestReadOfNoNumber(t *testing.T) {
	for _, s := range []string{
		"", "00", "01", "007", "0000", "-1", "-0", "+1", "-", "+", " ", " 1", "1 ", "1\n", "\t1",
		"1 2", "1_000", "1,000", "1.0", ".", "1e3", "0x10", "ff", "a", "1a", "a1", "12b4", "/", ":",
		"1/", "1:", "1\x00", "\x001", "\xff", "1\xff", "\u0661", "1\u0662", "\uff11", "\u00b2", "0\u0660",
		"4294967296x", strings.Repeat("9", 999) + "x", "x" + strings.Repeat("9", 999),
	} {
		if got, ok := nat.Read(s); len(got) != 0 || ok {
			t.Errorf("Read(%q) = %v, %t; want [], false", s, got, ok)
		}
	}
}

// Promise 2.4: up to 1000 digits, and the first of them is not 0.
func TestReadLength(t *testing.T) {
	for _, c := range []struct {
		s  string
		ok bool
	}{
		{strings.Repeat("9", 999), true},
		{strings.Repeat("9", 1000), true},
		{"1" + strings.Repeat("0", 999), true},
		{"1234567890" + strings.Repeat("0987654321", 99), true},
		{strings.Repeat("9", 1001), false},
		{"1" + strings.Repeat("0", 1000), false},
		{"0" + strings.Repeat("9", 999), false},
		{"0" + strings.Repeat("9", 1000), false},
		{strings.Repeat("0", 1000), false},
		{strings.Repeat("1", 100000), false},
	} {
		got, ok := nat.Read(c.s)
		if ok != c.ok || !ok && len(got) != 0 {
			t.Errorf("Read of %d digits = %v, %t; want %t", len(c.s), got, ok, c.ok)
		}
		if ok && (string(decimalOf(got)) != c.s || nat.Text(got) != c.s) {
			t.Errorf("Read(%s) = %v", c.s, got)
		}
	}
}
