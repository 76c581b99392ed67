package addr_test

import (
	"math"
	"math/big"
	"testing"

	"whipcord/addr"
	"whipcord/api"
)

const (
	maxFour = 1<<32 - 1
	maxStep = 1 << 40
)

func four(lo uint64) api.Addr {
	return api.Addr{Lo: lo}
}

func six(hi, lo uint64) api.Addr {
	return api.Addr{Six: true, Hi: hi, Lo: lo}
}

// invalid lists addresses that are of neither family.
func invalid() []api.Addr {
	return []api.Addr{
		four(maxFour + 1),
		four(math.MaxUint64),
		{Hi: 1},
		{Hi: 1, Lo: 1},
		{Hi: 1 << 63},
		{Hi: math.MaxUint64, Lo: math.MaxUint64},
	}
}

// valid lists addresses at and around the ends of the words and of the families.
func valid() []api.Addr {
	var l []api.Addr
	for _, lo := range []uint64{0, 1, 5, 255, 256, 10<<24 | 1<<16 | 2<<8 | 3, 1 << 31, maxFour - 1, maxFour} {
		l = append(l, four(lo))
	}
	words := []uint64{0, 1, 0xffff, 1 << 16, maxStep - 1, maxStep, maxStep + 1, 0x0123456789abcdef, 1 << 63,
		math.MaxUint64 - maxStep, math.MaxUint64 - maxStep + 1, math.MaxUint64 - 1, math.MaxUint64}
	for _, hi := range words {
		for _, lo := range words {
			l = append(l, six(hi, lo))
		}
	}
	return l
}

// number is the number of an address, and size that of the addresses of its family.
func number(a api.Addr) (n, size *big.Int) {
	n = new(big.Int).SetUint64(a.Hi)
	n.Lsh(n, 64)
	n.Or(n, new(big.Int).SetUint64(a.Lo))
	bits := uint(32)
	if a.Six {
		bits = 128
	}
	return n, new(big.Int).Lsh(big.NewInt(1), bits)
}

// P1.1

func TestMay(t *testing.T) {
	if !addr.May(api.Addr{}) {
		t.Error("May of the zero value: false")
	}
	for _, a := range valid() {
		if !addr.May(a) {
			t.Errorf("May(%v): false", a)
		}
	}
	for _, a := range invalid() {
		if addr.May(a) {
			t.Errorf("May(%v): true", a)
		}
		a.Six = true
		if !addr.May(a) {
			t.Errorf("May(%v): false", a)
		}
	}
}

func TestInvalidAddressIsFirstError(t *testing.T) {
	numbers := []int{0, 1, -1, 31, 32, 128, maxStep + 1, -maxStep - 1, math.MaxInt, math.MinInt}
	for _, a := range invalid() {
		if s, e := addr.Text(a); s != "" || e != api.ErrForm {
			t.Errorf("Text(%v): %q %v", a, s, e)
		}
		for _, n := range numbers {
			if bit, e := addr.Bit(a, n); bit != 0 || e != api.ErrForm {
				t.Errorf("Bit(%v, %d): %d %v", a, n, bit, e)
			}
			if b, e := addr.Next(a, n); b != (api.Addr{}) || e != api.ErrForm {
				t.Errorf("Next(%v, %d): %v %v", a, n, b, e)
			}
		}
	}
}

// P1.3

func TestBit(t *testing.T) {
	if bit, e := addr.Bit(four(1), 31); bit != 1 || e != api.OK {
		t.Errorf("bit 31 of 0.0.0.1: %d %v", bit, e)
	}
	for _, a := range valid() {
		n, size := number(a)
		bits := size.BitLen() - 1
		for i := range bits {
			want := int(n.Bit(bits - 1 - i))
			if bit, e := addr.Bit(a, i); bit != want || e != api.OK {
				t.Errorf("Bit(%v, %d): %d %v, want %d", a, i, bit, e, want)
			}
		}
	}
}

func TestBitFindsTheOnlyOne(t *testing.T) {
	for i := range 128 {
		a := six(0, 0)
		if i < 64 {
			a.Hi = 1 << (63 - i)
		} else {
			a.Lo = 1 << (127 - i)
		}
		for j := range 128 {
			bit, e := addr.Bit(a, j)
			if (bit == 1) != (i == j) || e != api.OK {
				t.Errorf("Bit(%v, %d): %d %v", a, j, bit, e)
			}
		}
	}
}

func TestNoSuchBit(t *testing.T) {
	check := func(a api.Addr, i int) {
		if bit, e := addr.Bit(a, i); bit != 0 || e != api.ErrRange {
			t.Errorf("Bit(%v, %d): %d %v, want an ErrRange", a, i, bit, e)
		}
	}
	for _, i := range []int{-1, -32, -64, 128, 129, 192, math.MaxInt, math.MinInt} {
		check(four(maxFour), i)
		check(six(math.MaxUint64, math.MaxUint64), i)
	}
	for _, i := range []int{32, 33, 63, 64, 96, 127} {
		check(four(maxFour), i)
	}
}

func TestNextExamples(t *testing.T) {
	for _, c := range []struct {
		a    api.Addr
		by   int
		want api.Addr
	}{
		{four(255), 1, four(256)},
		{four(256), -1, four(255)},
		{four(7), 0, four(7)},
		{four(0), maxFour, four(maxFour)},
		{four(maxFour), -maxFour, four(0)},
		{six(0, math.MaxUint64), 1, six(1, 0)},
		{six(1, 0), -1, six(0, math.MaxUint64)},
		{six(0, 0), maxStep, six(0, maxStep)},
		{six(5, 0), -maxStep, six(4, math.MaxUint64-maxStep+1)},
		// An IPv6 address goes on where an IPv4 address with the same number ends.
		{six(0, maxFour), 1, six(0, maxFour+1)},
	} {
		if b, e := addr.Next(c.a, c.by); b != c.want || e != api.OK {
			t.Errorf("Next(%v, %d): %v %v, want %v", c.a, c.by, b, e, c.want)
		}
	}
}

func TestNext(t *testing.T) {
	steps := []int{0, 1, 2, 255, 256, 1<<31 - 1, 1 << 31, maxFour - 1, maxFour, maxFour + 1, maxStep - 1, maxStep}
	for _, a := range valid() {
		for _, step := range steps {
			checkNext(t, a, step)
			checkNext(t, a, -step)
		}
	}
}

// checkNext compares Next with a sum of unbounded numbers.
func checkNext(t *testing.T, a api.Addr, by int) {
	t.Helper()
	n, size := number(a)
	n.Add(n, big.NewInt(int64(by)))
	b, e := addr.Next(a, by)
	if n.Sign() < 0 || n.Cmp(size) >= 0 {
		if b != (api.Addr{}) || e != api.ErrRange {
			t.Errorf("Next(%v, %d): %v %v, want an ErrRange", a, by, b, e)
		}
		return
	}
	got, _ := number(b)
	if e != api.OK || b.Six != a.Six || got.Cmp(n) != 0 {
		t.Errorf("Next(%v, %d): %v %v, want the number %v", a, by, b, e, n)
	}
}

func TestNextByTooMuch(t *testing.T) {
	for _, a := range []api.Addr{four(0), four(1 << 31), six(0, 0), six(1<<63, 0), six(1<<63, 1<<63)} {
		for _, by := range []int{maxStep + 1, -maxStep - 1, math.MaxInt, -math.MaxInt, math.MinInt} {
			if b, e := addr.Next(a, by); b != (api.Addr{}) || e != api.ErrRange {
				t.Errorf("Next(%v, %d): %v %v, want an ErrRange", a, by, b, e)
			}
		}
	}
}
