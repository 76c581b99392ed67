package cidr_test

import (
	"math"
	"math/rand"
	"slices"
	"testing"

	"whipcord/api"
	"whipcord/cidr"
	"whipcord/pre"
)

const maxFour = 1<<32 - 1

func four(lo uint64) api.Addr {
	return api.Addr{Lo: lo}
}

func six(hi, lo uint64) api.Addr {
	return api.Addr{Six: true, Hi: hi, Lo: lo}
}

func prefix(a api.Addr, n int) api.Prefix {
	return api.Prefix{Addr: a, Len: n}
}

// list reads prefixes, so that the tests can name them as the document does.
func list(t *testing.T, texts ...string) []api.Prefix {
	t.Helper()
	var l []api.Prefix
	for _, s := range texts {
		p, e := pre.Parse(s)
		if e != api.OK {
			t.Fatalf("Parse(%q): %v", s, e)
		}
		l = append(l, p)
	}
	return l
}

func checkRange(t *testing.T, first, last api.Addr, want []api.Prefix, wantE api.Errno) {
	t.Helper()
	got, e := cidr.Range(first, last)
	if !slices.Equal(got, want) || e != wantE {
		t.Errorf("Range(%v, %v): %v %v, want %v %v", first, last, got, e, want, wantE)
	}
}

func checkMerge(t *testing.T, l, want []api.Prefix, wantE api.Errno) {
	t.Helper()
	got, e := cidr.Merge(l)
	if !slices.Equal(got, want) || e != wantE {
		t.Errorf("Merge(%v): %v %v, want %v %v", l, got, e, want, wantE)
	}
}

func checkMinus(t *testing.T, l, m, want []api.Prefix, wantE api.Errno) {
	t.Helper()
	got, e := cidr.Minus(l, m)
	if !slices.Equal(got, want) || e != wantE {
		t.Errorf("Minus(%v, %v): %v %v, want %v %v", l, m, got, e, want, wantE)
	}
}

func checkBoth(t *testing.T, l, m, want []api.Prefix, wantE api.Errno) {
	t.Helper()
	got, e := cidr.Both(l, m)
	if !slices.Equal(got, want) || e != wantE {
		t.Errorf("Both(%v, %v): %v %v, want %v %v", l, m, got, e, want, wantE)
	}
}

// field is a part of a family that the model cuts into 2^deep cells of equal size: the addresses of a prefix.
type field struct {
	isSix bool
	top   uint64 // the bits of the prefix, as a number
	n     int    // their count
	deep  int
}

// fields lists parts at the first and at the last addresses, of the smallest and of the largest cells, and across the two words of an address.
func fields(deep int) []field {
	return []field{
		{false, 0, 0, deep},
		{false, 10, 8, deep},
		{false, 0, 32 - deep, deep},
		{false, 1<<(32-deep) - 1, 32 - deep, deep},
		{true, 0, 0, deep},
		{true, 0x20010db8, 32, deep},
		{true, 0x123456789abcde, 64 - deep/2, deep},
		{true, 1<<(64-deep) - 1, 64 - deep, deep},
		{true, 0x20010db800000001, 64, deep},
		{true, 0, 128 - deep, deep},
		{true, math.MaxUint64, 128 - deep, deep},
	}
}

func (f field) width() int {
	if f.isSix {
		return 128
	}
	return 32
}

// addr is the address that begins with the bits of the field and of the n bits of head, and goes on with the bit rest.
func (f field) addr(head uint64, n int, rest uint64) api.Addr {
	a := api.Addr{Six: f.isSix}
	add := func(bit uint64) {
		a.Hi = a.Hi<<1 | a.Lo>>63
		a.Lo = a.Lo<<1 | bit
	}
	for i := f.n - 1; i >= 0; i-- {
		// The numbers of the fields with more than 64 bits of their own repeat their last one in front.
		if i >= 64 {
			add(f.top & 1)
		} else {
			add(f.top >> i & 1)
		}
	}
	for i := n - 1; i >= 0; i-- {
		add(head >> i & 1)
	}
	for range f.width() - f.n - n {
		add(rest)
	}
	return a
}

// prefix is that of the n bits of head, in the field.
func (f field) prefix(head uint64, n int) api.Prefix {
	return prefix(f.addr(head, n, 0), f.n+n)
}

// cells tells of each cell of a field whether it is in a set.
type cells []bool

// block is a prefix of a field: the cells whose numbers begin with the n bits of head.
type block struct {
	head uint64
	n    int
}

// blocks lists all prefixes of a field with that depth.
func blocks(deep int) []block {
	var l []block
	for n := range deep + 1 {
		for head := range uint64(1) << n {
			l = append(l, block{head, n})
		}
	}
	return l
}

// cellsOf is the set of the cells of blocks.
func cellsOf(deep int, l []block) cells {
	c := make(cells, 1<<deep)
	for i := range c {
		c[i] = slices.ContainsFunc(l, func(b block) bool {
			return uint64(i)>>(deep-b.n) == b.head
		})
	}
	return c
}

// choose combines two sets of cells.
func choose(c, d cells, yes func(inC, inD bool) bool) cells {
	out := make(cells, len(c))
	for i := range c {
		out[i] = yes(c[i], d[i])
	}
	return out
}

// smallest lists the blocks that lie in the set and are no part of a larger such block, in the order of their cells.
func (c cells) smallest(deep int) []block {
	var l []block
	for i := 0; i < len(c); {
		n := deep
		for n > 0 && i>>(deep-n+1)<<(deep-n+1) == i && !slices.Contains(c[i:i+1<<(deep-n+1)], false) {
			n--
		}
		if c[i] {
			l = append(l, block{uint64(i) >> (deep - n), n})
		}
		i += 1 << (deep - n)
	}
	return l
}

// prefixes are the blocks as prefixes of the field.
func (f field) prefixes(l []block) []api.Prefix {
	var out []api.Prefix
	for _, b := range l {
		out = append(out, f.prefix(b.head, b.n))
	}
	return out
}

// P3.1

func TestRangeExamples(t *testing.T) {
	ten := uint64(10 << 24)
	checkRange(t, four(ten+1), four(ten+4), list(t, "10.0.0.1/32", "10.0.0.2/31", "10.0.0.4/32"), api.OK)
	checkRange(t, four(ten), four(ten), list(t, "10.0.0.0/32"), api.OK)
	checkRange(t, four(0), four(maxFour), list(t, "0.0.0.0/0"), api.OK)
	checkRange(t, four(0), four(0), list(t, "0.0.0.0/32"), api.OK)
	checkRange(t, four(maxFour), four(maxFour), list(t, "255.255.255.255/32"), api.OK)
	checkRange(t, four(1<<31-1), four(1<<31), list(t, "127.255.255.255/32", "128.0.0.0/32"), api.OK)
	checkRange(t, six(0, 0), six(math.MaxUint64, math.MaxUint64), list(t, "::/0"), api.OK)
	checkRange(t, six(0, 0), six(0, maxFour), list(t, "::/96"), api.OK)
	checkRange(t, six(0, math.MaxUint64), six(1, 0), list(t, "::ffff:ffff:ffff:ffff/128", "0:0:0:1::/128"), api.OK)
	checkRange(t, six(0, 1<<63), six(1, 1<<63-1), list(t, "::8000:0:0:0/65", "0:0:0:1::/65"), api.OK)
	last := six(math.MaxUint64, math.MaxUint64)
	checkRange(t, last, last, []api.Prefix{prefix(last, 128)}, api.OK)
}

func TestRangeOfCells(t *testing.T) {
	const deep = 5
	for _, f := range fields(deep) {
		for i := range 1 << deep {
			for j := i; j < 1<<deep; j++ {
				c := make(cells, 1<<deep)
				for k := i; k <= j; k++ {
					c[k] = true
				}
				checkRange(t, f.addr(uint64(i), deep, 0), f.addr(uint64(j), deep, 1), f.prefixes(c.smallest(deep)), api.OK)
			}
		}
	}
}

// TestLongestRange leaves out only the first and the last address of a family: no range has a longer list.
func TestLongestRange(t *testing.T) {
	for _, f := range []field{{isSix: false}, {isSix: true}} {
		var want []api.Prefix
		for n := f.width(); n > 1; n-- {
			want = append(want, f.prefix(1, n))
		}
		whole := f.addr(0, 0, 1)
		for n := 2; n <= f.width(); n++ {
			p := prefix(whole, n)
			// The last prefix of the length n is all ones; the one before it ends with 0.
			if n <= 64 {
				p = f.prefix(1<<n-2, n)
			} else {
				p.Addr.Lo = (1<<(n-64) - 2) << (128 - n)
			}
			want = append(want, p)
		}
		last := whole
		last.Lo--
		checkRange(t, f.addr(1, f.width(), 0), last, want, api.OK)
	}
}

func TestRangeErrors(t *testing.T) {
	good := []api.Addr{four(0), four(5), four(maxFour), six(0, 0), six(7, 0), six(0, maxFour)}
	bad := []api.Addr{four(maxFour + 1), four(math.MaxUint64), {Hi: 1}, {Hi: math.MaxUint64, Lo: 3}}
	for _, b := range bad {
		// An address that is not valid counts before the families and the order.
		for _, a := range append(good, bad...) {
			checkRange(t, a, b, nil, api.ErrForm)
			checkRange(t, b, a, nil, api.ErrForm)
		}
	}
	for _, a := range good[:3] {
		for _, b := range good[3:] {
			checkRange(t, a, b, nil, api.ErrFamily)
			checkRange(t, b, a, nil, api.ErrFamily)
		}
	}
	checkRange(t, four(1), four(0), nil, api.ErrRange)
	checkRange(t, four(maxFour), four(maxFour-1), nil, api.ErrRange)
	checkRange(t, six(0, 1), six(0, 0), nil, api.ErrRange)
	checkRange(t, six(1, 0), six(0, math.MaxUint64), nil, api.ErrRange)
	checkRange(t, six(1<<63, 0), six(1, 0), nil, api.ErrRange)
}

// P3.2

func TestMergeExamples(t *testing.T) {
	for _, c := range []struct{ l, want []string }{
		{[]string{"10.0.0.0/9", "10.128.0.0/9"}, []string{"10.0.0.0/8"}},
		{[]string{"10.128.0.0/9", "10.0.0.0/9"}, []string{"10.0.0.0/8"}},
		{nil, nil},
		{[]string{"10.0.0.0/8"}, []string{"10.0.0.0/8"}},
		{[]string{"10.0.0.0/8", "10.0.0.0/8"}, []string{"10.0.0.0/8"}},
		{[]string{"10.1.0.0/16", "10.0.0.0/8"}, []string{"10.0.0.0/8"}},
		// Neighbours that are not the halves of one prefix stay two.
		{[]string{"10.128.0.0/9", "11.0.0.0/9"}, []string{"10.128.0.0/9", "11.0.0.0/9"}},
		{[]string{"0.0.0.3/32", "0.0.0.2/32", "0.0.0.0/31"}, []string{"0.0.0.0/30"}},
		{[]string{"128.0.0.0/1", "0.0.0.0/1"}, []string{"0.0.0.0/0"}},
		{[]string{"8000::/1", "::/1"}, []string{"::/0"}},
		{[]string{"::1/128", "::/128"}, []string{"::/127"}},
		// IPv4 comes before IPv6, and no address of the one family is one of the other.
		{[]string{"::/0", "255.0.0.0/8", "0.0.0.0/32"}, []string{"0.0.0.0/32", "255.0.0.0/8", "::/0"}},
		{[]string{"::a80:0/105", "10.0.0.0/9"}, []string{"10.0.0.0/9", "::a80:0/105"}},
		{[]string{"::/1", "128.0.0.0/1"}, []string{"128.0.0.0/1", "::/1"}},
	} {
		checkMerge(t, list(t, c.l...), list(t, c.want...), api.OK)
	}
	checkMerge(t, []api.Prefix{}, nil, api.OK)
}

func TestMinusExamples(t *testing.T) {
	for _, c := range []struct{ l, m, want []string }{
		{[]string{"10.0.0.0/8"}, []string{"10.0.0.0/9"}, []string{"10.128.0.0/9"}},
		{nil, nil, nil},
		{nil, []string{"10.0.0.0/8", "::/0"}, nil},
		{[]string{"10.0.0.0/9", "10.128.0.0/9"}, nil, []string{"10.0.0.0/8"}},
		{[]string{"10.0.0.0/8"}, []string{"10.0.0.0/8"}, nil},
		{[]string{"10.1.0.0/16"}, []string{"10.0.0.0/8"}, nil},
		{[]string{"0.0.0.0/29"}, []string{"0.0.0.3/32"}, []string{"0.0.0.0/31", "0.0.0.2/32", "0.0.0.4/30"}},
		// Neither of m covers 10.0.0.0/8, but both together leave nothing of it.
		{[]string{"10.0.0.0/8"}, []string{"10.128.0.0/9", "10.0.0.0/9"}, nil},
		{[]string{"::/0", "0.0.0.0/0"}, []string{"::/0"}, []string{"0.0.0.0/0"}},
		{[]string{"::/0", "0.0.0.0/0"}, []string{"0.0.0.0/0"}, []string{"::/0"}},
		{[]string{"::/0", "0.0.0.0/0"}, []string{"::/1", "128.0.0.0/1"}, []string{"0.0.0.0/1", "8000::/1"}},
	} {
		checkMinus(t, list(t, c.l...), list(t, c.m...), list(t, c.want...), api.OK)
	}
}

func TestBothExamples(t *testing.T) {
	for _, c := range []struct{ l, m, want []string }{
		{[]string{"10.0.0.0/8"}, []string{"10.1.0.0/16"}, []string{"10.1.0.0/16"}},
		{[]string{"10.1.0.0/16"}, []string{"10.0.0.0/8"}, []string{"10.1.0.0/16"}},
		{nil, nil, nil},
		{nil, []string{"10.0.0.0/8", "::/0"}, nil},
		{[]string{"10.0.0.0/8", "::/0"}, nil, nil},
		{[]string{"10.0.0.0/8"}, []string{"11.0.0.0/8"}, nil},
		{[]string{"10.0.0.0/8"}, []string{"10.128.0.0/9", "10.0.0.0/9"}, []string{"10.0.0.0/8"}},
		{[]string{"10.0.0.0/9", "10.128.0.0/9"}, []string{"10.0.0.0/8", "11.0.0.0/8"}, []string{"10.0.0.0/8"}},
		{[]string{"0.0.0.0/0"}, []string{"::/0"}, nil},
		{[]string{"::/0", "0.0.0.0/0"}, []string{"::/1", "128.0.0.0/1"}, []string{"128.0.0.0/1", "::/1"}},
	} {
		checkBoth(t, list(t, c.l...), list(t, c.m...), list(t, c.want...), api.OK)
	}
}

// checkCells compares the three functions with the model.
func checkCells(t *testing.T, f field, l, m []block) {
	t.Helper()
	c, d := cellsOf(f.deep, l), cellsOf(f.deep, m)
	less := choose(c, d, func(inC, inD bool) bool { return inC && !inD })
	both := choose(c, d, func(inC, inD bool) bool { return inC && inD })
	pl, pm := f.prefixes(l), f.prefixes(m)
	checkMerge(t, pl, f.prefixes(c.smallest(f.deep)), api.OK)
	checkMinus(t, pl, pm, f.prefixes(less.smallest(f.deep)), api.OK)
	checkBoth(t, pl, pm, f.prefixes(both.smallest(f.deep)), api.OK)
}

// TestAllListsOfFourCells has each pair of lists of the seven prefixes of four cells.
func TestAllListsOfFourCells(t *testing.T) {
	const deep = 2
	all := blocks(deep)
	part := func(set int) []block {
		var l []block
		for i, b := range all {
			if set>>i&1 == 1 {
				l = append(l, b)
			}
		}
		return l
	}
	for _, f := range []field{{false, 0, 0, deep}, {true, 0, 0, deep}} {
		for i := range 1 << len(all) {
			for j := range 1 << len(all) {
				checkCells(t, f, part(i), part(j))
			}
		}
	}
}

// TestManyLists has lists in any order, with prefixes that are there several times, of up to as many as are allowed.
func TestManyLists(t *testing.T) {
	const deep = 6
	random := rand.New(rand.NewSource(3))
	all := blocks(deep)
	some := func() []block {
		l := make([]block, random.Intn(api.MaxPres+1)>>random.Intn(6))
		for i := range l {
			// Blocks of many cells would fill the field: most are to be small.
			l[i] = all[max(random.Intn(len(all)), random.Intn(len(all)))]
		}
		return l
	}
	for _, f := range fields(deep) {
		for range 300 {
			checkCells(t, f, some(), some())
		}
	}
}

// TestBothFamilies has lists that mix the families: each one is as if it were alone.
func TestBothFamilies(t *testing.T) {
	const deep = 2
	random := rand.New(rand.NewSource(4))
	all := blocks(deep)
	some := func() []block {
		l := make([]block, random.Intn(4))
		for i := range l {
			l[i] = all[random.Intn(len(all))]
		}
		return l
	}
	// The last 32 bits of the two fields are the same.
	f4, f6 := field{false, 0, 30, deep}, field{true, 0, 126, deep}
	for range 500 {
		l4, l6, m4, m6 := some(), some(), some(), some()
		mix := func(a, b []block) []api.Prefix {
			l := append(f4.prefixes(a), f6.prefixes(b)...)
			random.Shuffle(len(l), func(i, j int) { l[i], l[j] = l[j], l[i] })
			return l
		}
		want := func(yes func(inC, inD bool) bool) []api.Prefix {
			c4 := choose(cellsOf(deep, l4), cellsOf(deep, m4), yes)
			c6 := choose(cellsOf(deep, l6), cellsOf(deep, m6), yes)
			return append(f4.prefixes(c4.smallest(deep)), f6.prefixes(c6.smallest(deep))...)
		}
		l, m := mix(l4, l6), mix(m4, m6)
		checkMerge(t, l, want(func(inL, _ bool) bool { return inL }), api.OK)
		checkMinus(t, l, m, want(func(inL, inM bool) bool { return inL && !inM }), api.OK)
		checkBoth(t, l, m, want(func(inL, inM bool) bool { return inL && inM }), api.OK)
	}
}

// many is a list of n prefixes of one address each, with gaps.
func many(n int) []api.Prefix {
	var l []api.Prefix
	for i := range n {
		l = append(l, prefix(six(uint64(i), 1), 128))
	}
	return l
}

// TestLongResults takes as many addresses from all of them as is allowed: the result has far more than MaxPres prefixes.
func TestLongResults(t *testing.T) {
	all := []api.Prefix{prefix(six(0, 0), 0)}
	m := many(api.MaxPres)
	out, e := cidr.Minus(all, m)
	if e != api.OK || len(out) < 64*api.MaxPres {
		t.Fatalf("Minus: %d prefixes, %v", len(out), e)
	}
	for i, p := range out {
		for _, q := range m {
			if in, _ := pre.Has(p, q.Addr); in {
				t.Errorf("%v contains %v", p, q)
			}
		}
		if i == 0 {
			continue
		}
		// Between neighbours there is nothing, or one address of m.
		_, last, _ := pre.Span(out[i-1])
		gap := p.Addr.Lo - last.Lo
		if gap != 1 && !(gap == 2 && slices.Contains(m, prefix(six(last.Hi, last.Lo+1), 128))) {
			t.Errorf("%v follows %v", p, out[i-1])
		}
		if above, _ := pre.Common(p, out[i-1]); gap == 1 && p.Len == out[i-1].Len && above.Len == p.Len-1 {
			t.Errorf("%v and %v are the halves of %v", out[i-1], p, above)
		}
	}
}

func TestSizes(t *testing.T) {
	full, over := many(api.MaxPres), many(api.MaxPres+1)
	checkMerge(t, full, full, api.OK)
	checkMinus(t, full, nil, full, api.OK)
	checkMinus(t, nil, full, nil, api.OK)
	checkMinus(t, full, full, nil, api.OK)
	checkBoth(t, full, full, full, api.OK)

	// The size of either list counts before an error of a prefix.
	wrong := []api.Prefix{prefix(four(0), 33)}
	wrongOver := append(slices.Clone(wrong), full...)
	for _, l := range [][]api.Prefix{over, wrongOver} {
		checkMerge(t, l, nil, api.ErrSize)
		for _, m := range [][]api.Prefix{nil, full, wrong, over, wrongOver} {
			checkMinus(t, l, m, nil, api.ErrSize)
			checkMinus(t, m, l, nil, api.ErrSize)
			checkBoth(t, l, m, nil, api.ErrSize)
			checkBoth(t, m, l, nil, api.ErrSize)
		}
	}
}

func TestErrorsOfPrefixes(t *testing.T) {
	good := list(t, "10.0.0.0/8", "::/0", "0.0.0.0/0")
	bad := []struct {
		p api.Prefix
		e api.Errno
	}{
		{prefix(four(maxFour+1), 8), api.ErrForm},
		{prefix(api.Addr{Hi: 1}, 129), api.ErrForm},
		{prefix(four(0), -1), api.ErrRange},
		{prefix(four(1), 33), api.ErrRange},
		{prefix(six(1, 1), 129), api.ErrRange},
		{prefix(six(0, 0), math.MinInt), api.ErrRange},
		{prefix(six(0, 0), math.MaxInt), api.ErrRange},
		{prefix(four(10<<24|1), 8), api.ErrBits},
		{prefix(six(0, 1), 127), api.ErrBits},
	}
	for _, b := range bad {
		for i := range len(good) + 1 {
			l := slices.Insert(slices.Clone(good), i, b.p)
			checkMerge(t, l, nil, b.e)
			for _, m := range [][]api.Prefix{nil, good, l} {
				checkMinus(t, l, m, nil, b.e)
				checkMinus(t, m, l, nil, b.e)
				checkBoth(t, l, m, nil, b.e)
				checkBoth(t, m, l, nil, b.e)
			}
		}
		for _, c := range bad {
			// The first prefix with an error counts, whatever kind of error a later one has.
			checkMerge(t, []api.Prefix{good[0], b.p, c.p}, nil, b.e)
			checkMinus(t, []api.Prefix{good[0], b.p}, []api.Prefix{c.p}, nil, b.e)
			checkBoth(t, []api.Prefix{good[0], b.p}, []api.Prefix{c.p}, nil, b.e)
		}
	}
}

// TestMemory writes to results and to the room behind them, and looks whether arguments and other results stay as they are.
func TestMemory(t *testing.T) {
	room := list(t, "::/1", "10.128.0.0/9", "10.0.0.0/9", "10.1.0.0/16", "10.2.0.0/16", "10.3.0.0/16")
	before := slices.Clone(room)
	// Both arguments have room behind them; that of l is m.
	l, m := room[:3], room[3:5]
	calls := map[string]func() ([]api.Prefix, api.Errno){
		"Range": func() ([]api.Prefix, api.Errno) { return cidr.Range(four(1), four(6)) },
		"Merge": func() ([]api.Prefix, api.Errno) { return cidr.Merge(l) },
		"Minus": func() ([]api.Prefix, api.Errno) { return cidr.Minus(l, m) },
		"Both":  func() ([]api.Prefix, api.Errno) { return cidr.Both(l, m) },
		"same":  func() ([]api.Prefix, api.Errno) { return cidr.Both(room[:1], room[:1]) },
	}
	for name, call := range calls {
		first, _ := call()
		want := slices.Clone(first)
		second, _ := call()
		for i := range second[:cap(second)] {
			second[:cap(second)][i] = prefix(four(99), 99)
		}
		if !slices.Equal(room, before) {
			t.Fatalf("%s: the arguments are now %v", name, room)
		}
		if !slices.Equal(first, want) {
			t.Errorf("%s: a result is now %v, was %v", name, first, want)
		}
		if third, _ := call(); !slices.Equal(third, want) {
			t.Errorf("%s: the next result is %v, want %v", name, third, want)
		}
	}
}
