// Package addr: IP addresses of both families, see doc/01-addr.md.
package addr

import (
	"math/bits"

	"whipcord/api"
)

const (
	fourBits = 32
	sixBits  = 128
	wordBits = 64

	// maxStep bounds the second argument of Next, in both directions.
	maxStep = 1 << 40
)

// May reports whether a is valid.
func May(a api.Addr) bool {
	return a.Six || a.Hi == 0 && a.Lo < 1<<fourBits
}

// Bit returns bit i of a, counted from the most significant one.
func Bit(a api.Addr, i int) (int, api.Errno) {
	if !May(a) {
		return 0, api.ErrForm
	}
	n := width(a)
	if i < 0 || i >= n {
		return 0, api.ErrRange
	}
	// Lo holds the last bits of either family, so places are counted from there.
	place := n - 1 - i
	if place >= wordBits {
		return int(a.Hi >> (place - wordBits) & 1), api.OK
	}
	return int(a.Lo >> place & 1), api.OK
}

// width is the number of bits of the family of a.
func width(a api.Addr) int {
	if a.Six {
		return sixBits
	}
	return fourBits
}

// Next returns the address of the family of a whose number is larger by by.
func Next(a api.Addr, by int) (api.Addr, api.Errno) {
	if !May(a) {
		return api.Addr{}, api.ErrForm
	}
	if by < -maxStep || by > maxStep {
		return api.Addr{}, api.ErrRange
	}
	b, over := moved(a, by)
	// A carry out of the 32 bits of IPv4 stays within the two words, but leaves an address that is not valid.
	if over || !May(b) {
		return api.Addr{}, api.ErrRange
	}
	return b, api.OK
}

// moved adds by to the 128 bits of a, and reports whether the sum did not fit in them.
func moved(a api.Addr, by int) (api.Addr, bool) {
	var lo, hi, carry uint64
	if by < 0 {
		lo, carry = bits.Sub64(a.Lo, uint64(-by), 0)
		hi, carry = bits.Sub64(a.Hi, 0, carry)
	} else {
		lo, carry = bits.Add64(a.Lo, uint64(by), 0)
		hi, carry = bits.Add64(a.Hi, 0, carry)
	}
	return api.Addr{Six: a.Six, Hi: hi, Lo: lo}, carry != 0
}
