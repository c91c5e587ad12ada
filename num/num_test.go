package num_test

import (
	"math"
	"math/big"
	"slices"
	"strings"
	"testing"

	"filespace/api"
	"filespace/num"
	"filespace/sample"
)

// samples returns numbers that are not negative: small ones, the neighbours of powers of each base, and the ends of the ranges.
func samples() []int {
	var l []int
	for n := range 600 {
		l = append(l, n)
	}
	for _, base := range []int{2, 8, 10, 16} {
		for p := base; p <= math.MaxInt/base; p *= base {
			l = append(l, p-1, p, p+1)
		}
	}
	return append(l, api.MaxNum-1, api.MaxNum, api.MaxNum+1, math.MaxInt-1, math.MaxInt)
}

var bases = []int{8, 10, 16}

var otherBases = []int{math.MinInt, -16, -10, -8, -1, 0, 1, 2, 7, 9, 11, 15, 17, 36, 37, 64, math.MaxInt}

// TestText checks P1.1.
func TestText(t *testing.T) {
	for _, x := range []struct {
		n, base int
		want    string
	}{
		{-255, 16, "-ff"},
		{8, 8, "10"},
		{0, 16, "0"},
		{0, 10, "0"},
		{0, 8, "0"},
		{420, 8, "644"},
		{-420, 8, "-644"},
		{-1, 8, "-1"},
		{1234567890, 10, "1234567890"},
		{0xabcdef, 16, "abcdef"},
		{0x9a0, 16, "9a0"},
		{math.MaxInt, 8, "777777777777777777777"},
		{math.MaxInt, 10, "9223372036854775807"},
		{math.MaxInt, 16, "7fffffffffffffff"},
		{-math.MaxInt, 10, "-9223372036854775807"},
		{math.MinInt, 8, "-1000000000000000000000"},
		{math.MinInt, 10, "-9223372036854775808"},
		{math.MinInt, 16, "-8000000000000000"},
	} {
		if s := num.Text(x.n, x.base); s != x.want {
			t.Errorf("Text(%d, %d) is %q, want %q", x.n, x.base, s, x.want)
		}
	}
}

// TestTextOfManyNumbers checks P1.1 against the unbounded integers of the library.
func TestTextOfManyNumbers(t *testing.T) {
	for _, n := range samples() {
		for _, base := range bases {
			for _, x := range []int{n, -n} {
				if s, want := num.Text(x, base), big.NewInt(int64(x)).Text(base); s != want {
					t.Errorf("Text(%d, %d) is %q, want %q", x, base, s, want)
				}
			}
		}
	}
}

// TestTextOtherBases checks the bases that P1.1 excludes.
func TestTextOtherBases(t *testing.T) {
	for _, base := range otherBases {
		for _, n := range []int{math.MinInt, -1, 0, 5, math.MaxInt} {
			if s := num.Text(n, base); s != "" {
				t.Errorf("Text(%d, %d) is %q", n, base, s)
			}
		}
	}
}

// TestPad checks P1.2.
func TestPad(t *testing.T) {
	for _, x := range []struct {
		n, base, width int
		want           string
	}{
		{5, 8, 3, "005"},
		{1234, 10, 2, "1234"},
		{1234, 10, 4, "1234"},
		{1234, 10, 5, "01234"},
		{10, 16, 0, "a"},
		{10, 16, 1, "a"},
		{10, 16, 2, "0a"},
		{0, 10, 3, "000"},
		{0, 10, 1, "0"},
		{0, 10, 0, "0"},
		{0, 8, -1, "0"},
		{7, 10, -5, "7"},
		{7, 10, math.MinInt, "7"},
		{420, 8, 6, "000644"},
		{math.MaxInt, 8, 22, "0777777777777777777777"},
		{math.MaxInt, 16, 3, "7fffffffffffffff"},
		{-1, 10, 3, ""},
		{-1, 16, 0, ""},
		{math.MinInt, 8, 64, ""},
		{-1, 9, 3, ""},
	} {
		if s := num.Pad(x.n, x.base, x.width); s != x.want {
			t.Errorf("Pad(%d, %d, %d) is %q, want %q", x.n, x.base, x.width, s, x.want)
		}
	}
	for _, base := range otherBases {
		if s := num.Pad(7, base, 3); s != "" {
			t.Errorf("Pad(7, %d, 3) is %q", base, s)
		}
	}
}

// TestPadLargeWidths checks that P1.2 takes a width above 64 as 64.
func TestPadLargeWidths(t *testing.T) {
	for _, x := range []struct{ width, zeros int }{
		{62, 61}, {63, 62}, {64, 63}, {65, 63}, {66, 63}, {1 << 20, 63}, {1 << 32, 63}, {1 << 62, 63}, {math.MaxInt, 63},
	} {
		if s, want := num.Pad(1, 10, x.width), strings.Repeat("0", x.zeros)+"1"; s != want {
			t.Errorf("Pad(1, 10, %d) is %q, want %q", x.width, s, want)
		}
	}
}

// TestPadAddsOnlyZeros checks P1.2 for many numbers and widths.
func TestPadAddsOnlyZeros(t *testing.T) {
	for _, n := range samples() {
		for _, base := range bases {
			digits := num.Text(n, base)
			for _, width := range []int{-1, 0, 1, 2, 8, 16, 21, 22, 23, 64, 65} {
				s := num.Pad(n, base, width)
				zeros, found := strings.CutSuffix(s, digits)
				if !found || strings.Trim(zeros, "0") != "" || len(s) != max(len(digits), min(width, 64)) {
					t.Errorf("Pad(%d, %d, %d) is %q", n, base, width, s)
				}
			}
		}
	}
}

// TestParse checks the numbers of P1.3.
func TestParse(t *testing.T) {
	for _, x := range []struct {
		s             string
		base, most, n int
	}{
		{"1f", 16, 31, 31},
		{"1f", 16, 32, 31},
		{"31", 10, 31, 31},
		{"0", 8, 0, 0},
		{"0", 10, 0, 0},
		{"0", 16, math.MaxInt, 0},
		{"7", 8, 7, 7},
		{"10", 8, 8, 8},
		{"10", 10, 10, 10},
		{"10", 16, 16, 16},
		{"644", 8, 511, 420},
		{"abcdef", 16, api.MaxNum, 0xabcdef},
		{"9007199254740991", 10, api.MaxNum, api.MaxNum},
		{"777777777777777777777", 8, math.MaxInt, math.MaxInt},
		{"9223372036854775807", 10, math.MaxInt, math.MaxInt},
		{"7fffffffffffffff", 16, math.MaxInt, math.MaxInt},
	} {
		if n, e := num.Parse(x.s, x.base, x.most); n != x.n || e != api.OK {
			t.Errorf("Parse(%q, %d, %d) is %d, %d, want %d", x.s, x.base, x.most, n, e, x.n)
		}
	}
}

// TestParseNotANumber checks the ErrNumber of P1.3 for texts that are no canonical form.
func TestParseNotANumber(t *testing.T) {
	texts := []string{
		"", "00", "01", "0000000000", "-", "-0", "-1", "+", "+0", "+1", " 1", "1 ", "\t1", "1\n", "1\x00", "\x001", "1_0", "_1", "0x1", "0o7", "0b1", "0X1F",
		"1.0", "1e1", "1F", "F", "A", "g", "1g", "G", "x", "/", ":", "@", "`", "\xff", "1\xff", "é", "１", "٣", "1,000", "0 0",
		strings.Repeat("0", 100) + "1",
	}
	for _, s := range texts {
		for _, base := range bases {
			// In the bases 8 and 10 the letters fail as well; 1e1 is a number of the base 16.
			if s == "1e1" && base == 16 {
				continue
			}
			for _, most := range []int{0, 9, math.MaxInt} {
				if n, e := num.Parse(s, base, most); n != 0 || e != api.ErrNumber {
					t.Errorf("Parse(%q, %d, %d) is %d, %d", s, base, most, n, e)
				}
			}
		}
	}
	for _, x := range []struct {
		s    string
		base int
	}{{"8", 8}, {"9", 8}, {"18", 8}, {"81", 8}, {"a", 8}, {"a", 10}, {"f", 10}, {"1a", 10}, {"ff", 10}} {
		if n, e := num.Parse(x.s, x.base, math.MaxInt); n != 0 || e != api.ErrNumber {
			t.Errorf("Parse(%q, %d) is %d, %d", x.s, x.base, n, e)
		}
	}
}

// TestParseTooLarge checks the ErrNumber of P1.3 for numbers above the limit.
func TestParseTooLarge(t *testing.T) {
	for _, x := range []struct {
		s          string
		base, most int
	}{
		{"32", 10, 31},
		{"20", 16, 31},
		{"40", 8, 31},
		{"1", 10, 0},
		{"9007199254740992", 10, api.MaxNum},
		{"1000000000000000000000", 8, math.MaxInt},
		{"9223372036854775808", 10, math.MaxInt},
		{"8000000000000000", 16, math.MaxInt},
		{"18446744073709551615", 10, math.MaxInt},
		{"18446744073709551616", 10, math.MaxInt},
		{"18446744073709551617", 10, math.MaxInt},
		{"10000000000000000", 16, math.MaxInt},
		{"ffffffffffffffff", 16, math.MaxInt},
		{strings.Repeat("9", 10000), 10, math.MaxInt},
	} {
		if n, e := num.Parse(x.s, x.base, x.most); n != 0 || e != api.ErrNumber {
			t.Errorf("Parse(%q, %d, %d) is %d, %d", x.s, x.base, x.most, n, e)
		}
	}
}

// TestParseArguments checks that ErrArg comes first in P1.3, whatever the text is.
func TestParseArguments(t *testing.T) {
	for _, s := range []string{"", "0", "1", "7", "x", "01", "-1", "99999999999999999999"} {
		for _, base := range otherBases {
			for _, most := range []int{-1, 0, 9, math.MaxInt} {
				if n, e := num.Parse(s, base, most); n != 0 || e != api.ErrArg {
					t.Errorf("Parse(%q, %d, %d) is %d, %d", s, base, most, n, e)
				}
			}
		}
		for _, base := range bases {
			for _, most := range []int{-1, -2, math.MinInt} {
				if n, e := num.Parse(s, base, most); n != 0 || e != api.ErrArg {
					t.Errorf("Parse(%q, %d, %d) is %d, %d", s, base, most, n, e)
				}
			}
		}
	}
}

// TestFields checks P1.4.
func TestFields(t *testing.T) {
	for _, x := range []struct {
		s    string
		want []string
	}{
		{" ab\tc ", []string{"ab", "c"}},
		{"", nil},
		{" ", nil},
		{" \t\n\r", nil},
		{"\r\n\r\n", nil},
		{"a", []string{"a"}},
		{"a b", []string{"a", "b"}},
		{"a\tb", []string{"a", "b"}},
		{"a\nb", []string{"a", "b"}},
		{"a\rb", []string{"a", "b"}},
		{"\n\n a \r\t b", []string{"a", "b"}},
		{"b a b", []string{"b", "a", "b"}},
		{"ab", []string{"ab"}},
		{"a\x00b \x00", []string{"a\x00b", "\x00"}},
		{"a\vb\fc\x1cd", []string{"a\vb\fc\x1cd"}},
		{"a\u0085b\u00a0c\u2003d\u2028e\u3000f", []string{"a\u0085b\u00a0c\u2003d\u2028e\u3000f"}},
		{"\x85 \xa0\xff\t\xc0\xa0", []string{"\x85", "\xa0\xff", "\xc0\xa0"}},
		{"é ü\nλ", []string{"é", "ü", "λ"}},
		{"\xe2\x80 \x83", []string{"\xe2\x80", "\x83"}},
		{"'a b'", []string{"'a", "b'"}},
	} {
		if l := num.Fields(x.s); !slices.Equal(l, x.want) {
			t.Errorf("Fields(%q) is %q, want %q", x.s, l, x.want)
		}
	}
}

// TestFieldsSeparators checks for every byte whether P1.4 takes it as a separator.
func TestFieldsSeparators(t *testing.T) {
	for i := range 256 {
		b := string([]byte{byte(i)})
		want := []string{"x" + b + "y"}
		if i == 32 || i == 9 || i == 10 || i == 13 {
			want = []string{"x", "y"}
		}
		if l := num.Fields("x" + b + "y"); !slices.Equal(l, want) {
			t.Errorf("Fields with the byte %d is %q, want %q", i, l, want)
		}
	}
}

// TestAdd checks P1.5.
func TestAdd(t *testing.T) {
	for _, x := range []struct {
		a, b, most, n int
		e             api.Errno
	}{
		{2, 3, 5, 5, api.OK},
		{2, 3, 6, 5, api.OK},
		{2, 4, 5, 0, api.ErrNumber},
		{0, 0, 0, 0, api.OK},
		{1, 0, 0, 0, api.ErrNumber},
		{0, 1, 0, 0, api.ErrNumber},
		{5, 0, 5, 5, api.OK},
		{0, 5, 5, 5, api.OK},
		{6, 0, 5, 0, api.ErrNumber},
		{0, 6, 5, 0, api.ErrNumber},
		{9, 9, 5, 0, api.ErrNumber},
		{math.MaxInt, 0, math.MaxInt, math.MaxInt, api.OK},
		{0, math.MaxInt, math.MaxInt, math.MaxInt, api.OK},
		{math.MaxInt - 1, 1, math.MaxInt, math.MaxInt, api.OK},
		{math.MaxInt, 1, math.MaxInt, 0, api.ErrNumber},
		{1, math.MaxInt, math.MaxInt, 0, api.ErrNumber},
		{math.MaxInt, math.MaxInt, math.MaxInt, 0, api.ErrNumber},
		{math.MaxInt, math.MaxInt, 0, 0, api.ErrNumber},
		{1 << 62, 1 << 62, math.MaxInt, 0, api.ErrNumber},
		{-1, 4, 5, 0, api.ErrArg},
		{4, -1, 5, 0, api.ErrArg},
		{1, 1, -1, 0, api.ErrArg},
		{0, 0, -1, 0, api.ErrArg},
		{-1, 9, 5, 0, api.ErrArg},
		{9, -1, 5, 0, api.ErrArg},
		{-2, -3, -5, 0, api.ErrArg},
		{math.MinInt, math.MaxInt, math.MaxInt, 0, api.ErrArg},
		{math.MaxInt, math.MinInt, math.MaxInt, 0, api.ErrArg},
		{0, 0, math.MinInt, 0, api.ErrArg},
	} {
		if n, e := num.Add(x.a, x.b, x.most); n != x.n || e != x.e {
			t.Errorf("Add(%d, %d, %d) is %d, %d, want %d, %d", x.a, x.b, x.most, n, e, x.n, x.e)
		}
	}
}

// TestParseOfText checks the first half of P1.6.
func TestParseOfText(t *testing.T) {
	for _, n := range samples() {
		for _, base := range bases {
			s := num.Text(n, base)
			if m, e := num.Parse(s, base, n); m != n || e != api.OK {
				t.Errorf("Parse(%q, %d, %d) is %d, %d", s, base, n, m, e)
			}
			if n == 0 {
				continue
			}
			if m, e := num.Parse(s, base, n-1); m != 0 || e != api.ErrNumber {
				t.Errorf("Parse(%q, %d, %d) is %d, %d", s, base, n-1, m, e)
			}
		}
	}
}

// TestTextOfParse checks the second half of P1.6.
func TestTextOfParse(t *testing.T) {
	parsed := 0
	for _, s := range sample.Bytes("0179afFg+-_x \xff", 4) {
		for _, base := range bases {
			for _, most := range []int{0, 7, 100, math.MaxInt} {
				n, e := num.Parse(s, base, most)
				if e != api.OK {
					continue
				}
				parsed++
				if num.Text(n, base) != s || n < 0 || n > most {
					t.Errorf("Parse(%q, %d, %d) is %d", s, base, most, n)
				}
			}
		}
	}
	if parsed == 0 {
		t.Error("no text was parsed")
	}
}

// TestFieldsOfFields checks P1.7.
func TestFieldsOfFields(t *testing.T) {
	for _, s := range sample.Bytes("ab \t\n\r\v\xff", 5) {
		l := num.Fields(s)
		for _, f := range l {
			if f == "" || strings.ContainsAny(f, " \t\n\r") {
				t.Errorf("Fields(%q) contains %q", s, f)
			}
		}
		if again := num.Fields(strings.Join(l, " ")); !slices.Equal(again, l) {
			t.Errorf("the fields of the fields of %q are %q, not %q", s, again, l)
		}
	}
}
