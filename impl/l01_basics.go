package impl

import (
	"strconv"
	"strings"
)

// Codes, in the order of their values.
const (
	OK = iota
	ErrInvalid
	ErrRange
	ErrNotFound
	ErrExists
	ErrFull
	ErrState
	ErrSyntax
	ErrFormat
	ErrClash
	ErrGap
)

// MaxName is the greatest number of characters of a name.
const MaxName = 12

// maxRead is the greatest number of 18 digits.
const maxRead = 999999999999999999

var codeNames = [...]string{
	"ok", "invalid", "range", "not-found", "exists", "full", "state", "syntax", "format", "clash", "gap",
}

// CodeName returns the name of a code.
func CodeName(code int64) string {
	if !within(code, OK, ErrGap) {
		return ""
	}
	return codeNames[code]
}

// IsName reports whether s is a name.
func IsName(s string) bool {
	if len(s) < 1 || len(s) > MaxName {
		return false
	}
	for i, r := range s {
		behindLetter := i > 0 && (isDigit(r) || r == '-')
		if !isSmallLetter(r) && !behindLetter {
			return false
		}
	}
	return true
}

// Decimal returns the decimal form of a number.
func Decimal(n int64) string {
	return strconv.FormatInt(n, 10)
}

// ReadDecimal returns the number with a decimal form.
func ReadDecimal(s string) (int64, bool) {
	n, err := strconv.ParseInt(s, 10, 64)
	// ParseInt also reads signs and zeros that Decimal does not write.
	if err != nil || !within(n, -maxRead, maxRead) || Decimal(n) != s {
		return 0, false
	}
	return n, true
}

// SplitWords returns the parts of a text without blanks.
func SplitWords(s string) []string {
	return strings.FieldsFunc(s, isBlank)
}

// within reports whether n is least to most.
func within(n, least, most int64) bool {
	return least <= n && n <= most
}

// codeOf returns the first error of arguments that have to be valid, and of others that have to keep to their limits.
func codeOf(areValid, inLimits bool) int64 {
	switch {
	case !areValid:
		return ErrInvalid
	case !inLimits:
		return ErrRange
	}
	return OK
}

func isBlank(r rune) bool { return r == ' ' }

func isDigit(r rune) bool { return '0' <= r && r <= '9' }

func isSmallLetter(r rune) bool { return 'a' <= r && r <= 'z' }

// twoDigits returns the form with two digits of a number from 0 to 99.
func twoDigits(n int64) string {
	if n < 10 {
		return "0" + Decimal(n)
	}
	return Decimal(n)
}

// readTwoDigits returns the number with a form with two digits.
func readTwoDigits(s string) (int64, bool) {
	if len(s) != 2 {
		return 0, false
	}
	n := int64(0)
	for _, r := range s {
		if !isDigit(r) {
			return 0, false
		}
		n = 10*n + int64(r-'0')
	}
	return n, true
}
