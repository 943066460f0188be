// Package quantity is layer 1 (resource quantities as text): see shared/doc/01-quantity.md.
package quantity

import (
	"strconv"
	"strings"

	"orchestrator/api"
)

// one is the quantity of one whole unit: quantities count thousandths.
const one = 1000

// Limits on the digits of a quantity text. With them, a number of thousandths without its suffix is below 10^18 and fits an int.
const (
	maxWholeDigits    = 15
	maxFractionDigits = 3
)

// Parse returns the quantity that the text s tells.
func Parse(s string) (int, api.Errno) {
	text, negative := strings.CutPrefix(s, "-")
	whole, rest := cutDigits(text)
	if !validWhole(whole) {
		return 0, api.ErrSyntax
	}
	tail, dotted := strings.CutPrefix(rest, ".")
	fraction, suffix := "", rest
	if dotted {
		fraction, suffix = cutDigits(tail)
		if !validFraction(fraction) || suffix == "m" {
			return 0, api.ErrSyntax
		}
	}
	factor, known := suffixFactor(suffix)
	if !known {
		return 0, api.ErrSyntax
	}
	n := decimal(whole)
	if suffix != "m" {
		n = n*one + thousandths(fraction)
	}
	// Dividing the limit instead of multiplying the number avoids an overflow.
	if n > api.MaxNumber/factor {
		return 0, api.ErrRange
	}
	if negative {
		return -n * factor, api.OK
	}
	return n * factor, api.OK
}

// cutDigits splits s behind its leading decimal digits.
func cutDigits(s string) (digits, rest string) {
	i := 0
	for i < len(s) && '0' <= s[i] && s[i] <= '9' {
		i++
	}
	return s[:i], s[i:]
}

func validWhole(digits string) bool {
	if digits == "" || len(digits) > maxWholeDigits {
		return false
	}
	return digits == "0" || digits[0] != '0'
}

func validFraction(digits string) bool {
	return 1 <= len(digits) && len(digits) <= maxFractionDigits
}

// suffixFactor returns the factor of a suffix and whether there is such a suffix. That of m is 1, as its numbers are thousandths already.
func suffixFactor(suffix string) (int, bool) {
	switch suffix {
	case "", "m":
		return 1, true
	case "k":
		return 1000, true
	case "M":
		return 1000000, true
	case "G":
		return 1000000000, true
	case "Ki":
		return 1 << 10, true
	case "Mi":
		return 1 << 20, true
	case "Gi":
		return 1 << 30, true
	}
	return 0, false
}

// decimal returns the number that the digits write; no digits are 0.
func decimal(digits string) int {
	n := 0
	for i := range len(digits) {
		n = n*10 + int(digits[i]-'0')
	}
	return n
}

// thousandths returns the digits behind a dot as a number of thousandths.
func thousandths(digits string) int {
	n := decimal(digits)
	for range maxFractionDigits - len(digits) {
		n *= 10
	}
	return n
}

// Print returns the one text that Parse reads as n and that all texts of this value share.
func Print(n int) string {
	n = clamp(n, -api.MaxNumber, api.MaxNumber)
	if n%one != 0 {
		return strconv.Itoa(n) + "m"
	}
	q := n / one
	switch {
	case q == 0:
		return "0"
	case q%1000000000 == 0:
		return strconv.Itoa(q/1000000000) + "G"
	case q%1000000 == 0:
		return strconv.Itoa(q/1000000) + "M"
	case q%1000 == 0:
		return strconv.Itoa(q/1000) + "k"
	}
	return strconv.Itoa(q)
}

// Resolve returns the number that the amount a is of total, a percentage rounded up or down.
func Resolve(a api.Amount, total int, up bool) int {
	share := clamp(a.N, 0, api.MaxNumber)
	if !a.Percent {
		return share
	}
	return percentage(share, clamp(total, 0, api.MaxNumber), up)
}

// percentage returns share percent of total, at most MaxNumber. Both are from 0 to MaxNumber.
func percentage(share, total int, up bool) int {
	// The product of the two does not fit an int: the hundreds of total and the rest are taken apart.
	hundreds, rest := total/api.Percent, total%api.Percent
	if share > 0 && hundreds > api.MaxNumber/share {
		return api.MaxNumber
	}
	part := rest * share
	if up {
		part += api.Percent - 1
	}
	return min(hundreds*share+part/api.Percent, api.MaxNumber)
}

// clamp returns n, or the end of the range from low to high that n lies beyond.
func clamp(n, low, high int) int {
	return max(low, min(n, high))
}
