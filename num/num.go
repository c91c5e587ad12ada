// Package num: numbers as text in decimal, octal and hexadecimal (layer 1; shared/doc/01-num.md).
package num

import (
	"strconv"
	"strings"

	"filespace/api"
)

// maxWidth is the greatest width that Pad fills with zeros.
const maxWidth = 64

// Text returns n in a base (8, 10 or 16), with a minus sign if n is negative, or the empty string for another base.
func Text(n, base int) string {
	if !isBase(base) {
		return ""
	}
	return strconv.FormatInt(int64(n), base)
}

// Pad returns Text with zeros in front, up to a width of at most 64, or the empty string if n is negative.
func Pad(n, base, width int) string {
	if n < 0 || !isBase(base) {
		return ""
	}
	digits := Text(n, base)
	// The width is limited before the subtraction, which would overflow for the least integers.
	missing := min(max(width, 0), maxWidth) - len(digits)
	return strings.Repeat("0", max(missing, 0)) + digits
}

// Parse returns the number whose canonical form in a base is s, at most most.
func Parse(s string, base, most int) (int, api.Errno) {
	if !isBase(base) || most < 0 {
		return 0, api.ErrArg
	}
	n, err := strconv.ParseInt(s, base, strconv.IntSize)
	if err != nil || n < 0 || int(n) > most {
		return 0, api.ErrNumber
	}
	// ParseInt also takes signs, uppercase digits and leading zeros; only the canonical form is printed again as it was.
	if Text(int(n), base) != s {
		return 0, api.ErrNumber
	}
	return int(n), api.OK
}

// Fields returns the runs of bytes between blanks, tabs, newlines and carriage returns.
func Fields(s string) []string {
	return strings.FieldsFunc(s, isSeparator)
}

// Add returns a + b, at most most.
func Add(a, b, most int) (int, api.Errno) {
	if a < 0 || b < 0 || most < 0 {
		return 0, api.ErrArg
	}
	// The sum itself could overflow; the difference of two numbers that are not negative cannot.
	if b > most-a {
		return 0, api.ErrNumber
	}
	return a + b, api.OK
}

func isBase(base int) bool {
	return base == 8 || base == 10 || base == 16
}

// isSeparator is narrower than unicode.IsSpace: vertical tabs, form feeds and spaces beyond ASCII belong to fields.
func isSeparator(r rune) bool {
	return r == ' ' || r == '\t' || r == '\n' || r == '\r'
}
