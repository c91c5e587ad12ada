package octet_test

import (
	"encoding/binary"
	"encoding/hex"
	"math"
	"strings"
	"testing"

	"filespace/api"
	"filespace/octet"
	"filespace/sample"
)

// otherWidths are widths that are not from 1 to 8.
var otherWidths = []int{math.MinInt, -8, -1, 0, 9, 10, 16, 64, math.MaxInt}

// surroundings are texts that may stand before and after an encoding.
var surroundings = []string{"", "\x00", "\xff", "a", "\x02\x00", "\xff\xff\xff\xff\xff\xff\xff\xff\xff", "\x00\x00\x00\x00\x00\x00\x00\x00\x00"}

// greatest returns the greatest integer whose encoding fits into a width.
func greatest(width int) int {
	if width == 8 {
		return math.MaxInt
	}
	return 1<<(8*width) - 1
}

// littleEndian returns the encoding of n in a width as the library writes it.
func littleEndian(n, width int) string {
	return string(binary.LittleEndian.AppendUint64(nil, uint64(n))[:width])
}

// samples returns integers that are not negative: small ones and the neighbours of the powers of two.
func samples() []int {
	var l []int
	for n := range 600 {
		l = append(l, n)
	}
	for bit := 1; bit < 63; bit++ {
		l = append(l, 1<<bit-1, 1<<bit, 1<<bit+1)
	}
	return append(l, 0x0102030405060708, math.MaxInt-1, math.MaxInt)
}

// texts returns strings of many lengths and of all bytes.
func texts() []string {
	var all strings.Builder
	for i := range 256 {
		all.WriteByte(byte(i))
	}
	l := []string{"", "a", "ab", "\x00", "\xff", "\x00\x00", "\x01\x00a", "é λ", "\xc0\x80", "a\nb", all.String()}
	for _, n := range []int{254, 255, 256, 257, 511, 512, 513, 1024, 4096, 65279, 65280, 65281, 65534, 65535} {
		l = append(l, strings.Repeat("x", n-1)+"y")
	}
	return l
}

// checkGet reports a result of Get that is not the wanted one.
func checkGet(t *testing.T, s string, at, width, n, next int, e api.Errno) {
	t.Helper()
	if m, after, f := octet.Get(s, at, width); m != n || after != next || f != e {
		t.Errorf("Get(%q, %d, %d) is %d, %d, %d, want %d, %d, %d", s, at, width, m, after, f, n, next, e)
	}
}

// checkGetText reports a result of GetText that is not the wanted one.
func checkGetText(t *testing.T, s string, at int, text string, next int, e api.Errno) {
	t.Helper()
	if u, after, f := octet.GetText(s, at); u != text || after != next || f != e {
		t.Errorf("GetText(%.40q, %d) is %.40q, %d, %d, want %.40q, %d, %d", s, at, u, after, f, text, next, e)
	}
}

// TestPut checks the encodings of P2.1.
func TestPut(t *testing.T) {
	for _, x := range []struct {
		n, width int
		want     string
	}{
		{258, 2, "\x02\x01"},
		{0, 1, "\x00"},
		{0, 3, "\x00\x00\x00"},
		{0, 8, "\x00\x00\x00\x00\x00\x00\x00\x00"},
		{7, 1, "\x07"},
		{7, 4, "\x07\x00\x00\x00"},
		{255, 1, "\xff"},
		{256, 2, "\x00\x01"},
		{0x010203, 3, "\x03\x02\x01"},
		{1<<32 - 1, 4, "\xff\xff\xff\xff"},
		{1 << 32, 5, "\x00\x00\x00\x00\x01"},
		{0x0102030405060708, 8, "\x08\x07\x06\x05\x04\x03\x02\x01"},
		{math.MaxInt, 8, "\xff\xff\xff\xff\xff\xff\xff\x7f"},
	} {
		if s, e := octet.Put(x.n, x.width); s != x.want || e != api.OK {
			t.Errorf("Put(%d, %d) is %q, %d, want %q", x.n, x.width, s, e, x.want)
		}
	}
}

// TestPutOfManyNumbers checks P2.1 in every width, and the ErrNumber of the integers that a width does not hold.
func TestPutOfManyNumbers(t *testing.T) {
	for _, n := range samples() {
		for width := 1; width <= 8; width++ {
			want, wantErr := "", api.ErrNumber
			if n <= greatest(width) {
				want, wantErr = littleEndian(n, width), api.OK
			}
			if s, e := octet.Put(n, width); s != want || e != wantErr {
				t.Errorf("Put(%d, %d) is %q, %d, want %q, %d", n, width, s, e, want, wantErr)
			}
		}
	}
}

// TestPutLimits checks both sides of the limit of every width in P2.1.
func TestPutLimits(t *testing.T) {
	for width := 1; width <= 7; width++ {
		want := strings.Repeat("\xff", width)
		if s, e := octet.Put(greatest(width), width); s != want || e != api.OK {
			t.Errorf("Put(%d, %d) is %q, %d", greatest(width), width, s, e)
		}
		for _, n := range []int{greatest(width) + 1, greatest(width) + 2, math.MaxInt} {
			if s, e := octet.Put(n, width); s != "" || e != api.ErrNumber {
				t.Errorf("Put(%d, %d) is %q, %d", n, width, s, e)
			}
		}
	}
}

// TestPutNegative checks that P2.1 rejects negative integers in every width.
func TestPutNegative(t *testing.T) {
	for _, n := range []int{-1, -2, -128, -255, -256, -1 << 32, math.MinInt + 1, math.MinInt} {
		for width := 1; width <= 8; width++ {
			if s, e := octet.Put(n, width); s != "" || e != api.ErrNumber {
				t.Errorf("Put(%d, %d) is %q, %d", n, width, s, e)
			}
		}
	}
}

// TestPutOtherWidths checks that ErrArg comes first in P2.1, whatever the integer is.
func TestPutOtherWidths(t *testing.T) {
	for _, width := range otherWidths {
		for _, n := range []int{math.MinInt, -1, 0, 1, 256, math.MaxInt} {
			if s, e := octet.Put(n, width); s != "" || e != api.ErrArg {
				t.Errorf("Put(%d, %d) is %q, %d", n, width, s, e)
			}
		}
	}
}

// TestGet checks the integers of P2.2.
func TestGet(t *testing.T) {
	checkGet(t, "\x09\x02\x01", 1, 2, 258, 3, api.OK)
	checkGet(t, "\x09\x02\x01", 0, 1, 9, 1, api.OK)
	checkGet(t, "\x09\x02\x01", 0, 2, 521, 2, api.OK)
	checkGet(t, "\x09\x02\x01", 0, 3, 0x010209, 3, api.OK)
	checkGet(t, "\x09\x02\x01", 2, 1, 1, 3, api.OK)
	checkGet(t, "\x00", 0, 1, 0, 1, api.OK)
	checkGet(t, "\xff\xff\xff\xff", 0, 4, 1<<32-1, 4, api.OK)
	checkGet(t, "\xff\xff\xff\xff\xff\xff\xff", 0, 7, 1<<56-1, 7, api.OK)
	checkGet(t, "\x08\x07\x06\x05\x04\x03\x02\x01", 0, 8, 0x0102030405060708, 8, api.OK)
	checkGet(t, "\xff\xff\xff\xff\xff\xff\xff\x7f", 0, 8, math.MaxInt, 8, api.OK)
	checkGet(t, "\x07\x00\x00\x00\x00\x00\x00\x00\x80", 0, 8, 7, 8, api.OK)
	checkGet(t, "é", 0, 2, 0xa9c3, 2, api.OK)
}

// TestGetOfEveryByte checks that P2.2 takes bytes as numbers without a sign, at each place of the encoding.
func TestGetOfEveryByte(t *testing.T) {
	for b := range 256 {
		for width := 1; width <= 8; width++ {
			for place := range min(width, 7) {
				s := littleEndian(b<<(8*place), width)
				checkGet(t, "ab"+s+"c", 2, width, b<<(8*place), 2+width, api.OK)
			}
		}
	}
}

// TestGetTooLarge checks the ErrNumber of P2.2, which only the width 8 can have.
func TestGetTooLarge(t *testing.T) {
	for _, s := range []string{strings.Repeat("\xff", 8), "\x00\x00\x00\x00\x00\x00\x00\x80", "\x01\x00\x00\x00\x00\x00\x00\x80", "\xff\xff\xff\xff\xff\xff\xff\xfe"} {
		checkGet(t, s, 0, 8, 0, 0, api.ErrNumber)
		checkGet(t, "ab"+s+"c", 2, 8, 0, 0, api.ErrNumber)
	}
}

// TestGetShort checks the ErrShort of P2.2: at every distance from the end that is less than the width, whatever the bytes are.
func TestGetShort(t *testing.T) {
	checkGet(t, "", 0, 1, 0, 0, api.ErrShort)
	for _, s := range []string{strings.Repeat("\x00", 9), strings.Repeat("\xff", 9)} {
		for width := 1; width <= 8; width++ {
			for left := range width {
				checkGet(t, s, len(s)-left, width, 0, 0, api.ErrShort)
			}
		}
	}
}

// TestGetArguments checks that ErrArg comes first in P2.2.
func TestGetArguments(t *testing.T) {
	for _, s := range []string{"", "a", "abcdefghijkl", strings.Repeat("\xff", 20)} {
		for _, width := range otherWidths {
			for _, at := range []int{math.MinInt, -1, 0, len(s), len(s) + 1, math.MaxInt} {
				checkGet(t, s, at, width, 0, 0, api.ErrArg)
			}
		}
		for width := 1; width <= 8; width++ {
			for _, at := range []int{math.MinInt, math.MinInt + 8, -8, -1, len(s) + 1, len(s) + 8, math.MaxInt - 7, math.MaxInt} {
				checkGet(t, s, at, width, 0, 0, api.ErrArg)
			}
		}
	}
}

// TestPutText checks P2.3.
func TestPutText(t *testing.T) {
	for _, x := range []struct{ s, want string }{
		{"ab", "\x02\x00ab"},
		{"", "\x00\x00"},
		{"\x00", "\x01\x00\x00"},
		{"é", "\x02\x00\xc3\xa9"},
		{strings.Repeat("a", 255), "\xff\x00" + strings.Repeat("a", 255)},
		{strings.Repeat("a", 256), "\x00\x01" + strings.Repeat("a", 256)},
		{strings.Repeat("a", 258), "\x02\x01" + strings.Repeat("a", 258)},
		{strings.Repeat("a", 65534), "\xfe\xff" + strings.Repeat("a", 65534)},
		{strings.Repeat("a", 65535), "\xff\xff" + strings.Repeat("a", 65535)},
	} {
		if s, e := octet.PutText(x.s); s != x.want || e != api.OK {
			t.Errorf("PutText of %d bytes is %.40q, %d", len(x.s), s, e)
		}
	}
	for _, n := range []int{65536, 65537, 65538, 131071, 131072, 1 << 20} {
		if s, e := octet.PutText(strings.Repeat("a", n)); s != "" || e != api.ErrLong {
			t.Errorf("PutText of %d bytes is %.40q, %d", n, s, e)
		}
	}
}

// TestGetText checks the strings of P2.4.
func TestGetText(t *testing.T) {
	checkGetText(t, "\x02\x00ab", 0, "ab", 4, api.OK)
	checkGetText(t, "\x02\x00abc", 0, "ab", 4, api.OK)
	checkGetText(t, "\x00\x00", 0, "", 2, api.OK)
	checkGetText(t, "\x00\x00abc", 0, "", 2, api.OK)
	checkGetText(t, "x\x00\x00", 1, "", 3, api.OK)
	checkGetText(t, "xy\x03\x00abcz", 2, "abc", 7, api.OK)
	checkGetText(t, "\x01\x00\x01\x00a", 2, "a", 5, api.OK)
	checkGetText(t, "\x02\x00\x00\xff", 0, "\x00\xff", 4, api.OK)
	checkGetText(t, "\x02\x01"+strings.Repeat("a", 259), 0, strings.Repeat("a", 258), 260, api.OK)
	checkGetText(t, "\xff\xff"+strings.Repeat("a", 65536), 0, strings.Repeat("a", 65535), 65537, api.OK)
}

// TestGetTextShort checks the ErrShort of P2.4, in the length and in the bytes that follow it.
func TestGetTextShort(t *testing.T) {
	checkGetText(t, "", 0, "", 0, api.ErrShort)
	checkGetText(t, "\x00", 0, "", 0, api.ErrShort)
	checkGetText(t, "\x00\x00", 1, "", 0, api.ErrShort)
	checkGetText(t, "\x00\x00", 2, "", 0, api.ErrShort)
	checkGetText(t, "\x01\x00", 0, "", 0, api.ErrShort)
	checkGetText(t, "\x03\x00a", 0, "", 0, api.ErrShort)
	checkGetText(t, "\x03\x00ab", 0, "", 0, api.ErrShort)
	checkGetText(t, "abc\x03\x00ab", 3, "", 0, api.ErrShort)
	checkGetText(t, "\x02\x01"+strings.Repeat("a", 257), 0, "", 0, api.ErrShort)
	checkGetText(t, "\xff\xff"+strings.Repeat("a", 65534), 0, "", 0, api.ErrShort)
}

// TestGetTextArguments checks that the ErrArg of Get comes first in P2.4.
func TestGetTextArguments(t *testing.T) {
	for _, s := range []string{"", "\x00", "\x00\x00", "\x02\x00ab", "\x09\x00ab"} {
		for _, at := range []int{math.MinInt, -2, -1, len(s) + 1, len(s) + 2, math.MaxInt - 1, math.MaxInt} {
			checkGetText(t, s, at, "", 0, api.ErrArg)
		}
	}
}

// TestHex checks P2.5.
func TestHex(t *testing.T) {
	for _, x := range []struct{ s, want string }{
		{"\x00\xaf", "00af"},
		{"", ""},
		{"\x00", "00"},
		{"\x01\x23\x45\x67\x89\xab\xcd\xef", "0123456789abcdef"},
		{"\xf0\x0f", "f00f"},
		{"ab", "6162"},
		{"é", "c3a9"},
	} {
		if s := octet.Hex(x.s); s != x.want {
			t.Errorf("Hex(%q) is %q, want %q", x.s, s, x.want)
		}
	}
	for _, s := range texts() {
		if h, want := octet.Hex(s), hex.EncodeToString([]byte(s)); h != want {
			t.Errorf("Hex of %d bytes is %.40q, want %.40q", len(s), h, want)
		}
	}
}

// TestUnhex checks P2.6.
func TestUnhex(t *testing.T) {
	for _, x := range []struct{ s, want string }{
		{"00af", "\x00\xaf"},
		{"", ""},
		{"00", "\x00"},
		{"0123456789abcdef", "\x01\x23\x45\x67\x89\xab\xcd\xef"},
		{"f00f", "\xf0\x0f"},
		{"ff", "\xff"},
	} {
		if s, e := octet.Unhex(x.s); s != x.want || e != api.OK {
			t.Errorf("Unhex(%q) is %q, %d, want %q", x.s, s, e, x.want)
		}
	}
	for _, s := range []string{
		"00AF", "00aF", "00Af", "0", "000", "00a", "0g", "g0", "0 ", " 0", "00 ", " 00", "0x", "0x00", "00\n", "00af\n", "-1", "+1", "\x00\x00", "\xff\xff", "é", "１１", "00g0", "g000", "000g", "00af0",
	} {
		if b, e := octet.Unhex(s); b != "" || e != api.ErrForm {
			t.Errorf("Unhex(%q) is %q, %d", s, b, e)
		}
	}
}

// TestUnhexOfAllPairs checks P2.6 for every pair of bytes: it is accepted only if both are digits.
func TestUnhexOfAllPairs(t *testing.T) {
	const digits = "0123456789abcdef"
	for high := range 256 {
		for low := range 256 {
			pair := string([]byte{byte(high), byte(low)})
			want, wantErr := "", api.ErrForm
			i, j := strings.IndexByte(digits, byte(high)), strings.IndexByte(digits, byte(low))
			if i >= 0 && j >= 0 {
				want, wantErr = string([]byte{byte(16*i + j)}), api.OK
			}
			if s, e := octet.Unhex(pair); s != want || e != wantErr {
				t.Errorf("Unhex(%q) is %q, %d, want %q, %d", pair, s, e, want, wantErr)
			}
		}
	}
}

// TestGetOfPut checks the first part of P2.7 for integers.
func TestGetOfPut(t *testing.T) {
	for _, n := range samples() {
		for width := 1; width <= 8; width++ {
			s, e := octet.Put(n, width)
			if e != api.OK {
				continue
			}
			for _, before := range surroundings {
				for _, after := range surroundings {
					checkGet(t, before+s+after, len(before), width, n, len(before)+width, api.OK)
				}
			}
		}
	}
}

// TestGetTextOfPutText checks the first part of P2.7 for strings.
func TestGetTextOfPutText(t *testing.T) {
	for _, text := range texts() {
		s, e := octet.PutText(text)
		if e != api.OK {
			t.Errorf("PutText of %d bytes returns %d", len(text), e)
		}
		for _, before := range surroundings {
			for _, after := range surroundings {
				checkGetText(t, before+s+after, len(before), text, len(before)+2+len(text), api.OK)
			}
		}
	}
}

// TestPutOfGet checks the second part of P2.7 for integers: what Get accepts is what Put returns.
func TestPutOfGet(t *testing.T) {
	accepted := 0
	for _, s := range sample.Bytes("\x00\x01\x80\xff", 8) {
		width := len(s)
		n, next, e := octet.Get(s, 0, width)
		if e != api.OK {
			continue
		}
		accepted++
		if again, f := octet.Put(n, width); again != s || f != api.OK || next != width {
			t.Errorf("Get(%q, 0, %d) is %d, %d, but Put returns %q, %d", s, width, n, next, again, f)
		}
	}
	// Of the texts of 1 to 7 bytes all are accepted, of those of 8 bytes those whose last byte is below 128.
	if want := 4 + 16 + 64 + 256 + 1024 + 4096 + 16384 + 32768; accepted != want {
		t.Errorf("Get accepted %d texts, want %d", accepted, want)
	}
}

// TestPutTextOfGetText checks the second part of P2.7 for strings: what GetText accepts is what PutText returns.
func TestPutTextOfGetText(t *testing.T) {
	accepted := 0
	for _, s := range sample.Bytes("\x00\x01\x02\x03a\xff", 6) {
		for at := range len(s) + 1 {
			text, next, e := octet.GetText(s, at)
			if e != api.OK {
				continue
			}
			accepted++
			if again, f := octet.PutText(text); f != api.OK || next < at || next > len(s) || again != s[at:next] {
				t.Errorf("GetText(%q, %d) is %q, %d, but PutText returns %q, %d", s, at, text, next, again, f)
			}
		}
	}
	if accepted == 0 {
		t.Error("GetText accepted no text")
	}
}

// TestUnhexOfHex checks the third part of P2.7, in both directions.
func TestUnhexOfHex(t *testing.T) {
	for _, s := range append(texts(), sample.Bytes("\x00\x0f\x10\xaf\xff", 4)...) {
		if again, e := octet.Unhex(octet.Hex(s)); again != s || e != api.OK {
			t.Errorf("Unhex(Hex(%.40q)) is %.40q, %d", s, again, e)
		}
	}
	for _, h := range sample.Bytes("09afAFg \x00\xff", 4) {
		if s, e := octet.Unhex(h); e == api.OK && octet.Hex(s) != h {
			t.Errorf("Unhex(%q) is %q, whose Hex is %q", h, s, octet.Hex(s))
		}
	}
}
