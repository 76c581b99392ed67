package pre_test

import (
	"math"
	"strings"
	"testing"

	"whipcord/api"
	"whipcord/pre"
)

const maxFour = 1<<32 - 1

func four(lo uint64) api.Addr {
	return api.Addr{Lo: lo}
}

func six(hi, lo uint64) api.Addr {
	return api.Addr{Six: true, Hi: hi, Lo: lo}
}

func prefix(a api.Addr, n int) api.Prefix {
	return api.Prefix{Addr: a, Len: n}
}

// bitsOf writes the bits of an address, the most significant one first: the tests compare prefixes as strings.
func bitsOf(a api.Addr) string {
	var b strings.Builder
	if a.Six {
		writeBits(&b, a.Hi, 64)
		writeBits(&b, a.Lo, 64)
	} else {
		writeBits(&b, a.Lo, 32)
	}
	return b.String()
}

func writeBits(b *strings.Builder, word uint64, n int) {
	for i := n - 1; i >= 0; i-- {
		b.WriteByte("01"[word>>i&1])
	}
}

// ofBits is the address with these bits, and with the bit rest in place of those that are missing.
func ofBits(isSix bool, s, rest string) api.Addr {
	n := 32
	if isSix {
		n = 128
	}
	s += strings.Repeat(rest, n-len(s))
	a := api.Addr{Six: isSix}
	for i := range s {
		a.Hi = a.Hi<<1 | a.Lo>>63
		a.Lo = a.Lo<<1 | uint64(s[i]-'0')
	}
	return a
}

// headOf writes the bits that all addresses of a valid prefix begin with.
func headOf(p api.Prefix) string {
	return bitsOf(p.Addr)[:p.Len]
}

// ofHead is the valid prefix with these bits.
func ofHead(isSix bool, head string) api.Prefix {
	return prefix(ofBits(isSix, head, "0"), len(head))
}

// addrs lists addresses of both families with bits of many patterns, some of which begin alike.
func addrs() []api.Addr {
	var l []api.Addr
	for _, lo := range []uint64{0, 1, 10 << 24, 10<<24 | 1<<16 | 2<<8 | 3, 11 << 24, 1 << 31, 1<<31 - 1, maxFour - 1, maxFour} {
		l = append(l, four(lo))
	}
	for _, hi := range []uint64{0, 1, 0x20010db8 << 32, 1 << 63, math.MaxUint64} {
		for _, lo := range []uint64{0, 1, 0x0123456789abcdef, math.MaxUint64} {
			l = append(l, six(hi, lo))
		}
	}
	return l
}

// prefixes lists the prefixes of every length of the addresses, each one once.
func prefixes() []api.Prefix {
	var l []api.Prefix
	known := map[api.Prefix]bool{}
	for _, a := range addrs() {
		s := bitsOf(a)
		for n := range len(s) + 1 {
			p := ofHead(a.Six, s[:n])
			if !known[p] {
				known[p] = true
				l = append(l, p)
			}
		}
	}
	return l
}

// bad is a prefix that is not valid, with the error that it has.
type bad struct {
	p api.Prefix
	e api.Errno
}

func badPrefixes() []bad {
	return []bad{
		{prefix(four(maxFour+1), 8), api.ErrForm},
		{prefix(four(math.MaxUint64), 0), api.ErrForm},
		{prefix(api.Addr{Hi: 1}, 32), api.ErrForm},
		{prefix(api.Addr{Hi: math.MaxUint64, Lo: math.MaxUint64}, 64), api.ErrForm},

		{prefix(four(0), -1), api.ErrRange},
		{prefix(four(0), 33), api.ErrRange},
		{prefix(four(0), 64), api.ErrRange},
		{prefix(four(0), 128), api.ErrRange},
		{prefix(four(0), math.MaxInt), api.ErrRange},
		{prefix(four(0), math.MinInt), api.ErrRange},
		{prefix(six(0, 0), -1), api.ErrRange},
		{prefix(six(0, 0), 129), api.ErrRange},
		{prefix(six(0, 0), math.MaxInt), api.ErrRange},
		{prefix(six(0, 0), math.MinInt), api.ErrRange},

		{prefix(four(10<<24|1), 8), api.ErrBits},
		{prefix(four(1), 31), api.ErrBits},
		{prefix(four(1<<31), 0), api.ErrBits},
		{prefix(six(1, 0), 63), api.ErrBits},
		{prefix(six(0, 1<<63), 64), api.ErrBits},
		{prefix(six(0, 1), 127), api.ErrBits},

		// The first error that applies counts.
		{prefix(four(maxFour+1), -1), api.ErrForm},
		{prefix(api.Addr{Hi: 1, Lo: 1}, 129), api.ErrForm},
		{prefix(api.Addr{Hi: 1, Lo: 1}, math.MinInt), api.ErrForm},
		{prefix(four(1), -1), api.ErrRange},
		{prefix(four(1), 33), api.ErrRange},
		{prefix(six(1, 1), -1), api.ErrRange},
		{prefix(six(1, 1), 129), api.ErrRange},
	}
}

// P2.1

func TestCheck(t *testing.T) {
	if e := pre.Check(api.Prefix{}); e != api.OK {
		t.Errorf("Check of the zero value: %v", e)
	}
	for _, p := range prefixes() {
		if e := pre.Check(p); e != api.OK {
			t.Errorf("Check(%v): %v", p, e)
		}
	}
	for _, b := range badPrefixes() {
		if e := pre.Check(b.p); e != b.e {
			t.Errorf("Check(%v): %v, want %v", b.p, e, b.e)
		}
	}
}

// TestCheckFindsTheOnlyBit has one bit at each place, before and behind each end of a prefix.
func TestCheckFindsTheOnlyBit(t *testing.T) {
	for _, isSix := range []bool{false, true} {
		bits := len(bitsOf(api.Addr{Six: isSix}))
		for i := range bits {
			a := ofBits(isSix, strings.Repeat("0", i)+"1", "0")
			for n := range bits + 1 {
				want := api.OK
				if i >= n {
					want = api.ErrBits
				}
				if e := pre.Check(prefix(a, n)); e != want {
					t.Errorf("Check(%v/%d): %v, want %v", a, n, e, want)
				}
			}
		}
	}
}

func TestErrorOfOnePrefix(t *testing.T) {
	for _, b := range badPrefixes() {
		checkText(t, b.p, "", b.e)
		checkSpan(t, b.p, api.Addr{}, api.Addr{}, b.e)
		checkHalves(t, b.p, api.Prefix{}, api.Prefix{}, b.e)
		// The prefix counts before the address, whether or not that is valid or of the same family.
		for _, a := range []api.Addr{b.p.Addr, four(0), six(0, 0), four(maxFour + 1), {Hi: 1}} {
			checkHas(t, b.p, a, false, b.e)
		}
	}
}

func TestErrorOfTwoPrefixes(t *testing.T) {
	for _, b := range badPrefixes() {
		// An error of Check counts before ErrFamily.
		for _, p := range []api.Prefix{prefix(four(0), 0), prefix(four(maxFour), 32), prefix(six(0, 0), 0), prefix(six(1, 1), 128)} {
			checkCovers(t, b.p, p, false, b.e)
			checkCovers(t, p, b.p, false, b.e)
			checkCommon(t, b.p, p, api.Prefix{}, b.e)
			checkCommon(t, p, b.p, api.Prefix{}, b.e)
		}
		for _, c := range badPrefixes() {
			checkCovers(t, b.p, c.p, false, b.e)
			checkCommon(t, b.p, c.p, api.Prefix{}, b.e)
		}
	}
}

func TestErrorOfAddress(t *testing.T) {
	for _, a := range []api.Addr{four(maxFour + 1), four(math.MaxUint64), {Hi: 1}, {Hi: 1 << 63, Lo: 1}} {
		// An address that is not valid counts before its family.
		for _, p := range []api.Prefix{prefix(four(0), 0), prefix(four(10<<24), 8), prefix(six(0, 0), 0), prefix(six(1, 0), 64)} {
			checkHas(t, p, a, false, api.ErrForm)
		}
	}
}

func TestErrorOfFamilies(t *testing.T) {
	fours := []api.Prefix{prefix(four(0), 0), prefix(four(0), 32), prefix(four(10<<24), 8), prefix(four(maxFour), 32)}
	sixes := []api.Prefix{prefix(six(0, 0), 0), prefix(six(0, 0), 96), prefix(six(0, 10<<24), 104), prefix(six(0, maxFour), 128)}
	for _, p := range fours {
		for _, q := range sixes {
			checkHas(t, p, q.Addr, false, api.ErrFamily)
			checkHas(t, q, p.Addr, false, api.ErrFamily)
			checkCovers(t, p, q, false, api.ErrFamily)
			checkCovers(t, q, p, false, api.ErrFamily)
			checkCommon(t, p, q, api.Prefix{}, api.ErrFamily)
			checkCommon(t, q, p, api.Prefix{}, api.ErrFamily)
		}
	}
}

// P2.3

func TestExamples(t *testing.T) {
	ten := prefix(four(10<<24), 8)
	checkHas(t, ten, four(10<<24|1<<16|2<<8|3), true, api.OK)
	checkHas(t, ten, four(11<<24), false, api.OK)
	checkCovers(t, ten, prefix(four(10<<24|1<<16), 16), true, api.OK)
	checkCovers(t, prefix(four(10<<24|1<<16), 16), ten, false, api.OK)
	checkSpan(t, prefix(four(10<<24), 31), four(10<<24), four(10<<24|1), api.OK)
	checkHalves(t, prefix(four(0), 0), prefix(four(0), 1), prefix(four(1<<31), 1), api.OK)
	checkHalves(t, prefix(six(0, 0), 64), prefix(six(0, 0), 65), prefix(six(0, 1<<63), 65), api.OK)
	checkCommon(t, ten, prefix(four(11<<24), 8), prefix(four(10<<24), 7), api.OK)
	checkCommon(t, prefix(four(0), 32), prefix(four(maxFour), 32), prefix(four(0), 0), api.OK)
	checkCommon(t, prefix(six(5, 0), 128), prefix(six(5, 1<<63), 128), prefix(six(5, 0), 64), api.OK)
}

func TestHas(t *testing.T) {
	for _, p := range prefixes() {
		head := headOf(p)
		for _, a := range append(addrs(), ofBits(p.Addr.Six, head, "1"), p.Addr) {
			if a.Six == p.Addr.Six {
				checkHas(t, p, a, strings.HasPrefix(bitsOf(a), head), api.OK)
			}
		}
	}
}

func TestSpan(t *testing.T) {
	for _, p := range prefixes() {
		checkSpan(t, p, p.Addr, ofBits(p.Addr.Six, headOf(p), "1"), api.OK)
	}
}

func TestHalves(t *testing.T) {
	for _, p := range prefixes() {
		head := headOf(p)
		if len(head) == len(bitsOf(p.Addr)) {
			checkHalves(t, p, api.Prefix{}, api.Prefix{}, api.ErrNone)
			continue
		}
		checkHalves(t, p, ofHead(p.Addr.Six, head+"0"), ofHead(p.Addr.Six, head+"1"), api.OK)
	}
}

func TestCoversAndCommon(t *testing.T) {
	l := prefixes()
	var heads []string
	for _, p := range l {
		heads = append(heads, headOf(p))
	}
	for i, p := range l {
		for j, q := range l {
			if p.Addr.Six != q.Addr.Six {
				continue
			}
			checkCovers(t, p, q, strings.HasPrefix(heads[j], heads[i]), api.OK)
			n := sameBytes(heads[i], heads[j])
			checkCommon(t, p, q, prefix(ofBits(p.Addr.Six, heads[i][:n], "0"), n), api.OK)
		}
	}
}

// sameBytes is the number of bytes with which both strings begin.
func sameBytes(s, r string) int {
	n := 0
	for n < len(s) && n < len(r) && s[n] == r[n] {
		n++
	}
	return n
}

func checkHas(t *testing.T, p api.Prefix, a api.Addr, want bool, wantE api.Errno) {
	t.Helper()
	if got, e := pre.Has(p, a); got != want || e != wantE {
		t.Errorf("Has(%v, %v): %v %v, want %v %v", p, a, got, e, want, wantE)
	}
}

func checkCovers(t *testing.T, p, q api.Prefix, want bool, wantE api.Errno) {
	t.Helper()
	if got, e := pre.Covers(p, q); got != want || e != wantE {
		t.Errorf("Covers(%v, %v): %v %v, want %v %v", p, q, got, e, want, wantE)
	}
}

func checkSpan(t *testing.T, p api.Prefix, first, last api.Addr, wantE api.Errno) {
	t.Helper()
	if a, b, e := pre.Span(p); a != first || b != last || e != wantE {
		t.Errorf("Span(%v): %v %v %v, want %v %v %v", p, a, b, e, first, last, wantE)
	}
}

func checkHalves(t *testing.T, p, low, high api.Prefix, wantE api.Errno) {
	t.Helper()
	if q, r, e := pre.Halves(p); q != low || r != high || e != wantE {
		t.Errorf("Halves(%v): %v %v %v, want %v %v %v", p, q, r, e, low, high, wantE)
	}
}

func checkCommon(t *testing.T, p, q, want api.Prefix, wantE api.Errno) {
	t.Helper()
	if got, e := pre.Common(p, q); got != want || e != wantE {
		t.Errorf("Common(%v, %v): %v %v, want %v %v", p, q, got, e, want, wantE)
	}
}
