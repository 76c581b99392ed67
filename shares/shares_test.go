package shares_test

import (
	"math"
	"math/big"
	"math/rand"
	"slices"
	"testing"

	"whipcord/api"
	"whipcord/shares"
)

func of(hop, weight int) api.Share {
	return api.Share{Hop: hop, Weight: weight}
}

// weighted lists shares of the hops from 1 on with these weights.
func weighted(weights ...int) []api.Share {
	var l []api.Share
	for i, w := range weights {
		l = append(l, of(1+i, w))
	}
	return l
}

// spread lists n shares of different hops in no order, with all weights in turn.
func spread(n int) []api.Share {
	var l []api.Share
	for i := range n {
		l = append(l, of(1+i*37%997, 1+i*7%20))
	}
	return l
}

// numbered lists n buckets of the hops from first on.
func numbered(first, n int) []int {
	var l []int
	for i := range n {
		l = append(l, first+i)
	}
	return l
}

func four(lo uint64) api.Addr {
	return api.Addr{Lo: lo}
}

func six(hi, lo uint64) api.Addr {
	return api.Addr{Six: true, Hi: hi, Lo: lo}
}

func flow(from, to api.Addr) api.Flow {
	return api.Flow{From: from, To: to}
}

// modelCheck goes through the errors of a list as the document does.
func modelCheck(l []api.Share) api.Errno {
	if len(l) < 1 || len(l) > 16 {
		return api.ErrSize
	}
	earlier := map[int]bool{}
	for _, s := range l {
		switch {
		case s.Hop < 1 || s.Hop > 999 || s.Weight < 1 || s.Weight > 20:
			return api.ErrRange
		case earlier[s.Hop]:
			return api.ErrTwice
		}
		earlier[s.Hop] = true
	}
	return api.OK
}

// modelQuotas has the quotas of a valid list by hop: with exact fractions, and one remaining bucket after the other.
func modelQuotas(l []api.Share, many int) map[int]int {
	var sum, given int64
	for _, s := range l {
		sum += int64(s.Weight)
	}
	quotas, rests := map[int]int{}, map[int]*big.Rat{}
	for _, s := range l {
		exact := big.NewRat(int64(many)*int64(s.Weight), sum)
		whole := new(big.Int).Div(exact.Num(), exact.Denom()).Int64()
		quotas[s.Hop] = int(whole)
		rests[s.Hop] = exact.Sub(exact, big.NewRat(whole, 1))
		given += whole
	}
	for ; given < int64(many); given++ {
		best := l[0].Hop
		for _, s := range l {
			if rests[s.Hop].Cmp(rests[best]) > 0 {
				best = s.Hop
			}
		}
		quotas[best]++
		rests[best] = big.NewRat(-1, 1)
	}
	return quotas
}

func modelDeal(l []api.Share, many int) []int {
	quotas := modelQuotas(l, many)
	var out []int
	for _, s := range l {
		out = append(out, slices.Repeat([]int{s.Hop}, quotas[s.Hop])...)
	}
	return out
}

// modelTurn counts for each bucket those before it, and removes the hops that stay from the pile that is dealt.
func modelTurn(buckets []int, l []api.Share) []int {
	quotas := modelQuotas(l, len(buckets))
	pile := modelDeal(l, len(buckets))
	out := make([]int, len(buckets))
	for i, hop := range buckets {
		if quotas[hop] > count(buckets[:i], hop) {
			out[i] = hop
			at := slices.Index(pile, hop)
			pile = slices.Delete(pile, at, at+1)
		}
	}
	for i := range out {
		if out[i] == 0 {
			out[i] = pile[0]
			pile = pile[1:]
		}
	}
	return out
}

func count(buckets []int, hop int) int {
	n := 0
	for _, b := range buckets {
		if b == hop {
			n++
		}
	}
	return n
}

// modelHash is the hash of four numbers, computed with unbounded ones.
func modelHash(f api.Flow) int {
	hash, modulus := big.NewInt(17), big.NewInt(65521)
	for _, number := range []uint64{f.From.Hi, f.From.Lo, f.To.Hi, f.To.Lo} {
		hash.Mul(hash, big.NewInt(31))
		hash.Add(hash, new(big.Int).SetUint64(number))
		hash.Mod(hash, modulus)
	}
	return int(hash.Int64())
}

func checkCheck(t *testing.T, l []api.Share, want api.Errno) {
	t.Helper()
	if e := shares.Check(l); e != want {
		t.Errorf("Check(%v): %v, want %v", l, e, want)
	}
}

func checkDeal(t *testing.T, l []api.Share, many int, want []int, wantE api.Errno) {
	t.Helper()
	if got, e := shares.Deal(l, many); !slices.Equal(got, want) || e != wantE {
		t.Errorf("Deal(%v, %d): %v %v, want %v %v", l, many, got, e, want, wantE)
	}
}

func checkTurn(t *testing.T, buckets []int, l []api.Share, want []int, wantE api.Errno) {
	t.Helper()
	if got, e := shares.Turn(buckets, l); !slices.Equal(got, want) || e != wantE {
		t.Errorf("Turn(%v, %v): %v %v, want %v %v", buckets, l, got, e, want, wantE)
	}
}

func checkPick(t *testing.T, buckets []int, f api.Flow, want int, wantE api.Errno) {
	t.Helper()
	if got, e := shares.Pick(buckets, f); got != want || e != wantE {
		t.Errorf("Pick(%v, %v): %d %v, want %d %v", buckets, f, got, e, want, wantE)
	}
}

// checkAll compares what is dealt and turned with the model, and with what the document says of it.
func checkAll(t *testing.T, buckets []int, l []api.Share) {
	t.Helper()
	many := len(buckets)
	checkCheck(t, l, api.OK)
	dealt := modelDeal(l, many)
	checkDeal(t, l, many, dealt, api.OK)
	checkTurn(t, make([]int, many), l, dealt, api.OK)
	checkTurn(t, dealt, l, dealt, api.OK)
	turned := modelTurn(buckets, l)
	checkTurn(t, buckets, l, turned, api.OK)
	checkTurn(t, turned, l, turned, api.OK)
	checkMoves(t, buckets, turned, dealt)
}

// checkMoves checks that the hops have as many buckets as were dealt, and that no more buckets have moved than had to.
func checkMoves(t *testing.T, buckets, turned, dealt []int) {
	t.Helper()
	stay, want := 0, 0
	for i, hop := range turned {
		if hop == buckets[i] {
			stay++
		}
	}
	for _, hop := range slices.Compact(slices.Clone(dealt)) {
		if count(turned, hop) != count(dealt, hop) {
			t.Errorf("%v from %v: not as many of hop %d as in %v", turned, buckets, hop, dealt)
		}
		want += min(count(buckets, hop), count(dealt, hop))
	}
	if len(turned) != len(dealt) || stay != want {
		t.Errorf("%v from %v: %d stay, want %d", turned, buckets, stay, want)
	}
}

// counts are numbers of buckets, of which those from 1 to MaxBuckets are possible.
func counts() []int {
	return []int{math.MinInt, -64, -1, 0, 1, 2, 63, 64, 65, 1000, math.MaxInt}
}

// checkBad checks that every function has the error of a list that is not valid, whatever else is wrong.
func checkBad(t *testing.T, l []api.Share, want api.Errno) {
	t.Helper()
	checkCheck(t, l, want)
	for _, many := range counts() {
		checkDeal(t, l, many, nil, want)
	}
	for _, buckets := range append(badBuckets(), []int{0}, []int{1, 2}, make([]int, 64)) {
		checkTurn(t, buckets, l, nil, want)
	}
}

// badBuckets has too few and too many buckets, and hops out of range in all places.
func badBuckets() [][]int {
	l := [][]int{nil, {}, make([]int, 65), numbered(1, 65), make([]int, 1000)}
	for _, hop := range []int{math.MinInt, -1, 1000, math.MaxInt} {
		for _, n := range []int{1, 2, 64} {
			for i := range n {
				buckets := numbered(0, n)
				buckets[i] = hop
				l = append(l, buckets)
			}
		}
	}
	return l
}

// candidates has every combination of numbers at the ends of the ranges of the fields.
func candidates() []api.Share {
	var l []api.Share
	for _, hop := range []int{math.MinInt, -1, 0, 1, 2, 999, 1000, math.MaxInt} {
		for _, weight := range []int{math.MinInt, -1, 0, 1, 2, 20, 21, math.MaxInt} {
			l = append(l, of(hop, weight))
		}
	}
	return l
}

// P10.1

func TestCheck(t *testing.T) {
	cases := []struct {
		l    []api.Share
		want api.Errno
	}{
		{[]api.Share{of(1, 1)}, api.OK},
		{[]api.Share{of(999, 20)}, api.OK},
		{[]api.Share{of(2, 5), of(1, 5), of(999, 5)}, api.OK},
		{nil, api.ErrSize},
		{[]api.Share{}, api.ErrSize},
		{[]api.Share{{}}, api.ErrRange},
		{[]api.Share{of(0, 1)}, api.ErrRange},
		{[]api.Share{of(-1, 1)}, api.ErrRange},
		{[]api.Share{of(1000, 1)}, api.ErrRange},
		{[]api.Share{of(1, 0)}, api.ErrRange},
		{[]api.Share{of(1, -1)}, api.ErrRange},
		{[]api.Share{of(1, 21)}, api.ErrRange},
		{[]api.Share{of(1, 2), of(1, 2)}, api.ErrTwice},
		{[]api.Share{of(1, 2), of(1, 3)}, api.ErrTwice},
		{[]api.Share{of(1, 2), of(2, 3), of(1, 4)}, api.ErrTwice},
		{[]api.Share{of(1, 2), of(2, 3), of(2, 4)}, api.ErrTwice},
		// The ranges of a share count before the earlier ones.
		{[]api.Share{of(1, 2), of(1, 0)}, api.ErrRange},
		{[]api.Share{of(1, 2), of(1, 21)}, api.ErrRange},
		// The first share that has an error counts.
		{[]api.Share{of(1, 2), of(1, 2), of(2, 0)}, api.ErrTwice},
		{[]api.Share{of(2, 0), of(1, 2), of(1, 2)}, api.ErrRange},
		{[]api.Share{of(1, 2), of(0, 2), of(1, 2)}, api.ErrRange},
	}
	for _, c := range cases {
		if c.want != api.OK {
			checkBad(t, c.l, c.want)
			continue
		}
		checkCheck(t, c.l, api.OK)
	}
}

// TestCheckOfAllShares has every combination of numbers in one share, and each of these shares before each other one.
func TestCheckOfAllShares(t *testing.T) {
	for _, s := range candidates() {
		checkCheck(t, []api.Share{s}, modelCheck([]api.Share{s}))
		for _, other := range candidates() {
			l := []api.Share{s, other}
			checkCheck(t, l, modelCheck(l))
		}
	}
}

func TestCheckOfSizes(t *testing.T) {
	all := spread(100)
	for n := range all {
		if 1 <= n && n <= 16 {
			checkCheck(t, all[:n], api.OK)
		} else {
			checkBad(t, all[:n], api.ErrSize)
		}
	}
	// The size counts before the shares.
	for _, s := range candidates() {
		checkCheck(t, slices.Repeat([]api.Share{s}, 17), api.ErrSize)
	}
	checkBad(t, make([]api.Share, 17), api.ErrSize)
	checkBad(t, make([]api.Share, 16), api.ErrRange)
	checkBad(t, slices.Repeat([]api.Share{of(1, 1)}, 16), api.ErrTwice)
}

// TestOfErrors has a bad share in every place of a list, with and without another one behind it.
func TestOfErrors(t *testing.T) {
	good := spread(16)
	for i := range good {
		for _, bad := range candidates() {
			want := modelCheck([]api.Share{bad})
			if want == api.OK {
				continue
			}
			l := slices.Clone(good)
			l[i] = bad
			checkBad(t, l, want)
			if i < 14 {
				l[15] = l[14]
				checkCheck(t, l, want)
			}
		}
		for j := range i {
			l := slices.Clone(good)
			l[i] = of(l[j].Hop, 1)
			checkBad(t, l, api.ErrTwice)
		}
	}
}

// P10.2

func TestDeal(t *testing.T) {
	cases := []struct {
		l    []api.Share
		many int
		want []int
	}{
		{weighted(1, 1), 4, []int{1, 1, 2, 2}},
		{weighted(20, 20), 4, []int{1, 1, 2, 2}},
		{[]api.Share{of(5, 1), of(6, 2)}, 4, []int{5, 6, 6, 6}},
		{[]api.Share{of(7, 3)}, 1, []int{7}},
		{[]api.Share{of(999, 20)}, 3, []int{999, 999, 999}},
		// In the order of the list, not of the hops or weights.
		{[]api.Share{of(9, 1), of(3, 2), of(6, 1)}, 4, []int{9, 3, 3, 6}},
		// Among equal remainders, the first ones.
		{weighted(1, 1, 1), 1, []int{1}},
		{weighted(1, 1, 1), 2, []int{1, 2}},
		{weighted(1, 1, 1), 4, []int{1, 1, 2, 3}},
		{weighted(1, 1, 1), 5, []int{1, 1, 2, 2, 3}},
		{[]api.Share{of(9, 1), of(8, 1)}, 1, []int{9}},
		{[]api.Share{of(9, 1), of(8, 1)}, 3, []int{9, 9, 8}},
		{weighted(1, 3, 3), 1, []int{2}},
		{weighted(1, 3, 1, 3), 1, []int{2}},
		{weighted(1, 3, 1, 3), 2, []int{2, 4}},
		// 1/7, 2/7 and 4/7 of three buckets: the remainders are 3, 6 and 5.
		{weighted(1, 2, 4), 3, []int{2, 3, 3}},
		// A larger weight may have the smaller remainder.
		{weighted(3, 2), 2, []int{1, 2}},
		{weighted(1, 3, 1, 3), 3, []int{1, 2, 4}},
		{weighted(4, 1), 3, []int{1, 1, 2}},
		// A small weight may get nothing.
		{weighted(20, 1), 4, []int{1, 1, 1, 1}},
		{weighted(1, 20), 4, []int{2, 2, 2, 2}},
		// The remaining buckets are given one each, also if they are many.
		{weighted(9, 1, 1, 1, 1, 1, 1, 1), 8, []int{1, 1, 1, 1, 1, 2, 3, 4}},
		{weighted(2, 3, 3), 4, []int{1, 2, 2, 3}},
		{weighted(3, 2, 2, 2), 5, []int{1, 1, 2, 3, 4}},
	}
	for _, c := range cases {
		checkDeal(t, c.l, c.many, c.want, api.OK)
		checkAll(t, make([]int, c.many), c.l)
	}
}

// TestDealToTwo has all weights of two hops, in all numbers of buckets.
func TestDealToTwo(t *testing.T) {
	for a := 1; a <= 20; a++ {
		for b := 1; b <= 20; b++ {
			for many := 1; many <= 64; many++ {
				l := weighted(a, b)
				checkDeal(t, l, many, modelDeal(l, many), api.OK)
			}
		}
	}
}

// TestDealToThree has small weights of three hops.
func TestDealToThree(t *testing.T) {
	for i := range 6 * 6 * 6 {
		l := weighted(1+i%6, 1+i/6%6, 1+i/36)
		for _, many := range []int{1, 2, 3, 4, 5, 7, 16, 63, 64} {
			checkDeal(t, l, many, modelDeal(l, many), api.OK)
		}
	}
}

func TestDealOfCounts(t *testing.T) {
	for _, l := range [][]api.Share{weighted(1), weighted(2, 3), spread(16), weighted(slices.Repeat([]int{20}, 16)...)} {
		for many := -3; many <= 100; many++ {
			if 1 <= many && many <= 64 {
				checkAll(t, make([]int, many), l)
			} else {
				checkDeal(t, l, many, nil, api.ErrRange)
			}
		}
		for _, many := range []int{math.MinInt, math.MaxInt, 1 << 32, -1 << 32, 1<<32 + 1} {
			checkDeal(t, l, many, nil, api.ErrRange)
		}
	}
}

func TestTurn(t *testing.T) {
	l := []api.Share{of(5, 1), of(6, 2)}
	cases := []struct {
		buckets []int
		l       []api.Share
		want    []int
	}{
		{[]int{6, 6, 7, 5}, l, []int{6, 6, 6, 5}},
		{[]int{5, 5, 5, 5}, l, []int{5, 6, 6, 6}},
		{[]int{6, 6, 6, 6}, l, []int{6, 6, 6, 5}},
		{[]int{6, 5, 6, 6}, l, []int{6, 5, 6, 6}},
		{[]int{5, 6, 6, 6}, l, []int{5, 6, 6, 6}},
		// No hop, and those that have no share, move.
		{[]int{0, 0, 0, 0}, l, []int{5, 6, 6, 6}},
		{[]int{999, 1, 0, 7}, l, []int{5, 6, 6, 6}},
		{[]int{0, 6, 0, 5}, l, []int{6, 6, 6, 5}},
		// The first buckets of a hop keep it, those behind them do not.
		{[]int{1, 1, 1, 1, 2, 2, 2, 2}, weighted(1, 1, 2), []int{1, 1, 3, 3, 2, 2, 3, 3}},
		{[]int{1, 2, 1, 2, 1, 2, 1, 2}, weighted(1, 1, 2), []int{1, 2, 1, 2, 3, 3, 3, 3}},
		// The others get what remains, in the order of the shares.
		{[]int{4, 4, 4, 2, 4, 4, 4, 4}, []api.Share{of(3, 1), of(2, 2), of(1, 1)}, []int{3, 3, 2, 2, 2, 2, 1, 1}},
		{[]int{4, 3, 4, 1, 4, 4, 4, 4}, []api.Share{of(3, 1), of(2, 2), of(1, 1)}, []int{3, 3, 2, 1, 2, 2, 2, 1}},
		{[]int{1, 1, 1}, weighted(1, 1, 1), []int{1, 2, 3}},
		// A share whose quota is 0 loses its buckets.
		{[]int{2, 1, 2, 1}, weighted(20, 1), []int{1, 1, 1, 1}},
		{[]int{3}, []api.Share{of(3, 1)}, []int{3}},
		{[]int{3}, []api.Share{of(4, 1)}, []int{4}},
		{[]int{2}, weighted(1, 1), []int{1}},
	}
	for _, c := range cases {
		checkTurn(t, c.buckets, c.l, c.want, api.OK)
		checkAll(t, c.buckets, c.l)
	}
}

// TestTurnOfAllBuckets has every assignment of up to five buckets to four hops or none, of which three have shares.
func TestTurnOfAllBuckets(t *testing.T) {
	lists := [][]api.Share{
		weighted(1), weighted(1, 1), weighted(2, 1), weighted(1, 2, 3), weighted(1, 1, 1), weighted(20, 1, 1),
		{of(3, 1), of(1, 1)}, {of(2, 3), of(3, 2), of(1, 1)}, {of(9, 1), of(2, 2)},
	}
	for many, all := 1, 5; many <= 5; many, all = many+1, all*5 {
		for i := range all {
			buckets := make([]int, many)
			for at, rest := 0, i; at < many; at, rest = at+1, rest/5 {
				buckets[at] = rest % 5
			}
			for _, l := range lists {
				checkAll(t, buckets, l)
			}
		}
	}
}

// TestOfRandomShares has buckets that were dealt before the shares changed, with and without a few others.
func TestOfRandomShares(t *testing.T) {
	rnd := rand.New(rand.NewSource(101))
	for range 3000 {
		hops := rnd.Perm(999)[:20]
		some := func() []api.Share {
			var l []api.Share
			for _, i := range rnd.Perm(20)[:1+rnd.Intn(16)] {
				l = append(l, of(1+hops[i], 1+rnd.Intn(20)))
			}
			return l
		}
		buckets := modelDeal(some(), 1+rnd.Intn(64))
		if rnd.Intn(2) == 0 {
			rnd.Shuffle(len(buckets), func(i, j int) { buckets[i], buckets[j] = buckets[j], buckets[i] })
		}
		for range rnd.Intn(4) {
			buckets[rnd.Intn(len(buckets))] = rnd.Intn(1000)
		}
		checkAll(t, buckets, some())
	}
}

func TestTurnOfSizes(t *testing.T) {
	for _, l := range [][]api.Share{weighted(1), weighted(2, 3), spread(16)} {
		for n := range 100 {
			buckets := numbered(0, n)
			if 1 <= n && n <= 64 {
				checkAll(t, buckets, l)
			} else {
				checkTurn(t, buckets, l, nil, api.ErrRange)
			}
		}
		for _, buckets := range badBuckets() {
			checkTurn(t, buckets, l, nil, api.ErrRange)
		}
		checkAll(t, []int{0, 999, 999, 0}, l)
		checkAll(t, []int{999}, l)
	}
}

// P10.3

// hashes lists flows with their hashes.
func hashes() []struct {
	f    api.Flow
	hash int
} {
	const most = math.MaxUint64
	return []struct {
		f    api.Flow
		hash int
	}{
		{api.Flow{}, 40338},
		{flow(four(1), four(2)), 41301},
		{flow(four(2), four(1)), 42261},
		{flow(four(10<<24|1), four(10<<24|2)), 28257},
		{flow(four(1<<32-1), four(1<<32-1)), 59263},
		{flow(four(65521), four(65520)), 40337},
		{flow(six(0, 0), six(0, 0)), 40338},
		{flow(six(0, 1), six(0, 2)), 41301},
		{flow(six(1, 0), six(0, 0)), 4608},
		{flow(six(0x20010db8<<32, 1), six(0x20010db8<<32, 2)), 14037},
		// Sums that do not fit in a word.
		{flow(six(most, most), six(most, most)), 32569},
		{flow(six(most, 0), six(0, 0)), 17544},
		{flow(six(0, most), six(0, 0)), 7899},
		{flow(six(0, 0), six(most, 0)), 37178},
		{flow(six(0, 0), six(0, most)), 25441},
		// The first sum is the largest one that fits, and one more.
		{flow(six(most-527, 0), six(0, 0)), 42727},
		{flow(six(most-526, 0), six(0, 0)), 6997},
	}
}

func TestPick(t *testing.T) {
	for _, c := range hashes() {
		if got := modelHash(c.f); got != c.hash {
			t.Fatalf("the model's hash of %v: %d, want %d", c.f, got, c.hash)
		}
		for n := 1; n <= 64; n++ {
			checkPick(t, numbered(100, n), c.f, 100+c.hash%n, api.OK)
			checkPick(t, numbered(0, n), c.f, c.hash%n, api.OK)
		}
	}
}

func TestPickOfOneBucket(t *testing.T) {
	for _, c := range hashes() {
		for _, hop := range []int{0, 1, 999} {
			checkPick(t, []int{hop}, c.f, hop, api.OK)
			checkPick(t, slices.Repeat([]int{hop}, 64), c.f, hop, api.OK)
		}
	}
}

func TestPickOfRandomFlows(t *testing.T) {
	rnd := rand.New(rand.NewSource(103))
	for range 20000 {
		number := func() uint64 { return rnd.Uint64() >> rnd.Intn(64) }
		f := flow(six(number(), number()), six(number(), number()))
		if rnd.Intn(2) == 0 {
			f = flow(four(uint64(rnd.Uint32())), four(uint64(rnd.Uint32())))
		}
		n := 1 + rnd.Intn(64)
		checkPick(t, numbered(1, n), f, 1+modelHash(f)%n, api.OK)
	}
}

// invalid lists addresses that are of neither family.
func invalid() []api.Addr {
	return []api.Addr{four(1 << 32), four(math.MaxUint64), {Hi: 1}, {Hi: 1, Lo: 1}, {Hi: math.MaxUint64, Lo: math.MaxUint64}}
}

func TestPickOfBadFlows(t *testing.T) {
	good := []api.Addr{four(0), four(1<<32 - 1), six(0, 0), six(math.MaxUint64, math.MaxUint64)}
	for _, buckets := range [][]int{{1}, {0}, numbered(0, 64)} {
		for _, a := range good {
			for _, b := range good {
				if a.Six != b.Six {
					checkPick(t, buckets, flow(a, b), 0, api.ErrFamily)
				}
			}
			for _, bad := range invalid() {
				// Also where the other address is IPv6: the form counts before the families.
				checkPick(t, buckets, flow(bad, a), 0, api.ErrForm)
				checkPick(t, buckets, flow(a, bad), 0, api.ErrForm)
				checkPick(t, buckets, flow(bad, bad), 0, api.ErrForm)
			}
		}
	}
}

func TestPickOfBadBuckets(t *testing.T) {
	flows := []api.Flow{{}, flow(four(1), six(0, 1)), flow(four(1<<32), four(1)), flow(six(1, 1), api.Addr{Hi: 1})}
	for _, buckets := range badBuckets() {
		for _, f := range flows {
			checkPick(t, buckets, f, 0, api.ErrRange)
		}
	}
}

func TestExamples(t *testing.T) {
	l := weighted(1, 1)
	checkCheck(t, nil, api.ErrSize)
	checkDeal(t, l, 4, []int{1, 1, 2, 2}, api.OK)
	checkTurn(t, []int{2, 1, 1, 2}, l, []int{2, 1, 1, 2}, api.OK)
	checkPick(t, []int{7}, flow(four(3), four(4)), 7, api.OK)
}

// TestMemory has lists with spare capacity: neither they nor that may change, also not when results are changed.
func TestMemory(t *testing.T) {
	l, buckets := spread(20), numbered(1, 80)
	wantL, wantBuckets := slices.Clone(l), slices.Clone(buckets)
	use := func() [][]int {
		shares.Check(l[:10])
		shares.Pick(buckets[:40], api.Flow{})
		dealt, _ := shares.Deal(l[:10], 40)
		turned, _ := shares.Turn(buckets[:40], l[:10])
		same, _ := shares.Turn(dealt, l[:10])
		return [][]int{dealt, turned, same}
	}
	first, want, second := use(), use(), use()
	for i, out := range first {
		for j := range out[:cap(out)] {
			out[:cap(out)][j] = 7777
		}
		for j := range first {
			if j > i && slices.Contains(first[j][:cap(first[j])], 7777) {
				t.Errorf("results %d and %d share memory", i, j)
			}
		}
		if !slices.Equal(second[i], want[i]) || len(second[i]) != 40 {
			t.Errorf("results of two calls share memory, or differ: %v, want %v", second[i], want[i])
		}
	}
	if !slices.Equal(l, wantL) || !slices.Equal(buckets, wantBuckets) {
		t.Errorf("the arguments have changed")
	}
}
