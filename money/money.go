// Package money: amounts, and their parts.
package money

import (
	"tallyman/api"
)

// The greatest total of which a part is taken, and the greatest sum of weights.
const (
	maxPartTotal = 20 * api.MaxTotal
	maxWeights   = 1000 * api.MaxQty
)

// longest is how many bytes the longest text has that Parse reads.
const longest = len("-10000000000.00")

// Part is what part of a total goes with some of a whole: no more than its share. ErrArg: the total is not from 0 to 20 times MaxTotal, or it is not some of a whole of 1 to MaxQty.
func Part(total, some, whole int) (_ int, _ error) {
	if total < 0 || total > maxPartTotal {
		return 0, api.ErrArg
	}
	if whole < 1 || whole > api.MaxQty || some < 0 || some > whole {
		return 0, api.ErrArg
	}
	return share(total, some, whole), nil
}

// Spread is a total, spread by weights: of each as much as makes all up to it no more than their share. ErrArg: the total is not from 0 to MaxTotal, a weight is not from 0 to MaxQty, or all of them together are not from 1 to 1000 times MaxQty.
func Spread(total int, weights []int) (_ []int, _ error) {
	all, ok := together(weights)
	if !ok || total < 0 || total > api.MaxTotal {
		return nil, api.ErrArg
	}
	parts := make([]int, len(weights))
	some, spent := 0, 0
	for i, w := range weights {
		some += w
		upTo := share(total, some, all)
		parts[i] = upTo - spent
		spent = upTo
	}
	return parts, nil
}

// Print writes an amount: units, a point, two digits of hundredths; - ahead below 0.
func Print(n int) (_ string) {
	sign, size := "", uint64(n)
	if n < 0 {
		// Unsigned, because the least int has no int of its size.
		sign, size = "-", -size
	}
	units := size / 100
	return sign + digits(units, width(units)) + "." + digits(size%100, 2)
}

// Parse reads an amount, as Print writes it, of at most MaxTotal. ErrForm.
func Parse(s string) (_ int, _ error) {
	if len(s) > longest {
		return 0, api.ErrForm
	}
	n := value(s)
	// What Print writes is the one form there is, so it alone decides.
	if n < -api.MaxTotal || n > api.MaxTotal || Print(n) != s {
		return 0, api.ErrForm
	}
	return n, nil
}

// share is total times some by whole, cut. The total is taken apart by the whole first: total times some may be beyond 64 bits.
func share(total, some, whole int) int {
	return total/whole*some + total%whole*some/whole
}

// together is the sum of weights; false, if it may not be, or one of them may not.
func together(weights []int) (int, bool) {
	all := 0
	for _, w := range weights {
		if w < 0 || w > api.MaxQty {
			return 0, false
		}
		all += w
	}
	return all, all >= 1 && all <= maxWeights
}

// width is how many digits a number has.
func width(n uint64) int {
	count := 1
	for n >= 10 {
		n /= 10
		count++
	}
	return count
}

// digits are the last count digits of a number, noughts ahead where it has fewer.
func digits(n uint64, count int) string {
	text := make([]byte, count)
	for i := range count {
		text[count-1-i] = byte('0' + n%10)
		n /= 10
	}
	return string(text)
}

// value is the number that the digits of a text make, below 0 behind a -; what else stands between them is for Parse to refuse.
func value(s string) int {
	n := 0
	for i := range len(s) {
		if s[i] >= '0' && s[i] <= '9' {
			n = n*10 + int(s[i]-'0')
		}
	}
	if len(s) > 0 && s[0] == '-' {
		return -n
	}
	return n
}
