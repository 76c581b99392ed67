package offers_test

import (
	"fmt"
	"math"
	"math/rand"
	"slices"
	"strconv"
	"strings"
	"testing"

	"whipcord/api"
	"whipcord/offers"
	"whipcord/pre"
)

const maxFour = 1<<32 - 1

func four(lo uint64) api.Addr {
	return api.Addr{Lo: lo}
}

func six(hi, lo uint64) api.Addr {
	return api.Addr{Six: true, Hi: hi, Lo: lo}
}

func prefix(a api.Addr, n int) api.Prefix {
	return api.Prefix{Addr: a, Len: n}
}

// at reads a prefix, so that the tests can name it as the document does.
func at(t *testing.T, text string) api.Prefix {
	t.Helper()
	p, e := pre.Parse(text)
	if e != api.OK {
		t.Fatalf("Parse(%q): %v", text, e)
	}
	return p
}

// numbers reads numbers with blanks between them.
func numbers(t *testing.T, text string) []int {
	t.Helper()
	var l []int
	for _, s := range strings.Fields(text) {
		n, err := strconv.Atoi(s)
		if err != nil {
			t.Fatal(err)
		}
		l = append(l, n)
	}
	return l
}

// read reads offers: texts of prefixes, each one with its source, peer, metric and hop.
func read(t *testing.T, texts ...string) []api.Offer {
	t.Helper()
	sources := strings.NewReplacer("local", "1", "fixed", "2", "near", "3", "far", "4")
	var l []api.Offer
	for _, text := range texts {
		p, rest, _ := strings.Cut(text, " ")
		n := numbers(t, sources.Replace(rest))
		l = append(l, api.Offer{Prefix: at(t, p), Source: n[0], Peer: n[1], Metric: n[2], Hop: n[3]})
	}
	return l
}

// routes reads a table: texts of prefixes, each one with its hop.
func routes(t *testing.T, texts ...string) []api.Route {
	t.Helper()
	var l []api.Route
	for _, text := range texts {
		p, hop, _ := strings.Cut(text, " ")
		l = append(l, api.Route{Prefix: at(t, p), Hop: numbers(t, hop)[0]})
	}
	return l
}

// withdrawal is the offer that removes o.
func withdrawal(o api.Offer) api.Offer {
	o.Metric = api.MaxHop
	return o
}

// many lists n far offers of different prefixes of both families, none of which covers another one, in no order.
func many(n int) []api.Offer {
	var l []api.Offer
	for i := range n {
		o := api.Offer{Prefix: prefix(four(uint64(i*37%1000)), 32), Source: api.Far, Peer: i, Metric: 2 * i, Hop: i + 1}
		if i%3 == 0 {
			o.Prefix = prefix(six(0, uint64(i*37%1000)<<32), 96)
		}
		l = append(l, o)
	}
	return l
}

// key is a text of a prefix: the number of the family, and the bits. The texts have the order of the prefixes, and the text of a prefix begins with those of the prefixes that cover it.
func key(p api.Prefix) string {
	if p.Addr.Six {
		return fmt.Sprintf("6%064b%064b", p.Addr.Hi, p.Addr.Lo)[:1+p.Len]
	}
	return fmt.Sprintf("4%032b", p.Addr.Lo)[:1+p.Len]
}

// gone reports whether the offer i of l is no offer, or does not stand any more.
func gone(l []api.Offer, i int) bool {
	return l[i].Metric == api.MaxHop || slices.ContainsFunc(l[i+1:], func(o api.Offer) bool {
		return key(o.Prefix) == key(l[i].Prefix) && o.Source == l[i].Source && o.Peer == l[i].Peer
	})
}

// score is a text that is less for a better offer.
func score(o api.Offer) string {
	return fmt.Sprintf("%03d %03d %03d", o.Source, o.Metric, o.Peer)
}

// modelBest sorts the offers that stand, and takes the first one of each prefix.
func modelBest(l []api.Offer) []api.Offer {
	var standing []api.Offer
	for i, o := range l {
		if !gone(l, i) {
			standing = append(standing, o)
		}
	}
	slices.SortFunc(standing, func(o, p api.Offer) int {
		return strings.Compare(key(o.Prefix)+" "+score(o), key(p.Prefix)+" "+score(p))
	})
	return slices.CompactFunc(standing, func(o, p api.Offer) bool {
		return key(o.Prefix) == key(p.Prefix)
	})
}

// modelTable is the table of offers, however many routes it has.
func modelTable(l []api.Offer) []api.Route {
	best := modelBest(l)
	nearer := map[string]bool{}
	for _, o := range best {
		nearer[key(o.Prefix)] = o.Source != api.Far
	}
	var out []api.Route
	for _, o := range best {
		covered := false
		k := key(o.Prefix)
		for n := range len(k) {
			covered = covered || nearer[k[:n+1]]
		}
		if o.Source != api.Far || !covered {
			out = append(out, api.Route{Prefix: o.Prefix, Hop: o.Hop})
		}
	}
	return out
}

func checkCheck(t *testing.T, o api.Offer, want api.Errno) {
	t.Helper()
	if e := offers.Check(o); e != want {
		t.Errorf("Check(%v): %v, want %v", o, e, want)
	}
}

func checkBest(t *testing.T, l, want []api.Offer, wantE api.Errno) {
	t.Helper()
	if got, e := offers.Best(l); !slices.Equal(got, want) || e != wantE {
		t.Errorf("Best(%v): %v %v, want %v %v", l, got, e, want, wantE)
	}
}

func checkTable(t *testing.T, l []api.Offer, want []api.Route, wantE api.Errno) {
	t.Helper()
	if got, e := offers.Table(l); !slices.Equal(got, want) || e != wantE {
		t.Errorf("Table(%v): %v %v, want %v %v", l, got, e, want, wantE)
	}
}

// checkBoth checks a list of valid offers of which not too many have a route.
func checkBoth(t *testing.T, l []api.Offer) {
	t.Helper()
	checkBest(t, l, modelBest(l), api.OK)
	checkTable(t, l, modelTable(l), api.OK)
}

// badPrefix is a prefix that is not valid, with the error that it has.
type badPrefix struct {
	p api.Prefix
	e api.Errno
}

func badPrefixes() []badPrefix {
	return []badPrefix{
		{prefix(four(maxFour+1), 8), api.ErrForm},
		{prefix(api.Addr{Hi: 1}, 0), api.ErrForm},
		{prefix(four(0), -1), api.ErrRange},
		{prefix(four(0), 33), api.ErrRange},
		{prefix(six(0, 0), 129), api.ErrRange},
		{prefix(four(0), math.MinInt), api.ErrRange},
		{prefix(four(0), math.MaxInt), api.ErrRange},
		{prefix(four(1), 31), api.ErrBits},
		{prefix(six(1, 0), 63), api.ErrBits},
	}
}

func badSources() []int {
	return []int{0, -1, api.Far + 1, api.Far + 2, math.MaxInt, math.MinInt}
}

// badNumbers are out of range in every field that has one.
func badNumbers() []int {
	return []int{-1, api.MaxHop + 1, math.MaxInt, math.MinInt}
}

// badOffer is an offer that is not valid, with the error that it has.
type badOffer struct {
	o api.Offer
	e api.Errno
}

// badOffers has offers with one error each, and with errors of which the first one counts.
func badOffers() []badOffer {
	good := api.Offer{Prefix: prefix(four(8), 29), Source: api.Near, Peer: 1, Metric: 2, Hop: 3}
	l := []badOffer{{api.Offer{}, api.ErrKind}}
	for _, b := range badPrefixes() {
		o := good
		o.Prefix = b.p
		l = append(l, badOffer{o, b.e}, badOffer{api.Offer{Prefix: b.p}, b.e}, badOffer{withdrawal(o), b.e})
	}
	for _, source := range badSources() {
		o := good
		o.Source = source
		l = append(l, badOffer{o, api.ErrKind}, badOffer{api.Offer{Source: source, Peer: -1}, api.ErrKind}, badOffer{withdrawal(o), api.ErrKind})
	}
	for _, n := range badNumbers() {
		peer, metric, hop := good, good, good
		peer.Peer, metric.Metric, hop.Hop = n, n, n
		l = append(l, badOffer{peer, api.ErrRange}, badOffer{metric, api.ErrRange}, badOffer{hop, api.ErrRange}, badOffer{withdrawal(hop), api.ErrRange})
	}
	good.Hop = 0
	return append(l, badOffer{good, api.ErrRange}, badOffer{withdrawal(good), api.ErrRange})
}

// P8.1

func TestCheck(t *testing.T) {
	edges := []int{0, 1, 500, api.MaxHop - 1, api.MaxHop}
	for _, text := range []string{"0.0.0.0/0", "10.0.0.0/8", "255.255.255.255/32", "::/0", "1::/16", "ffff:ffff:ffff:ffff:ffff:ffff:ffff:ffff/128"} {
		for _, source := range []int{api.Local, api.Fixed, api.Near, api.Far} {
			for _, peer := range edges {
				for _, metric := range edges {
					for _, hop := range edges[1:] {
						checkCheck(t, api.Offer{Prefix: at(t, text), Source: source, Peer: peer, Metric: metric, Hop: hop}, api.OK)
					}
				}
			}
		}
	}
}

func TestCheckOfExample(t *testing.T) {
	o := read(t, "10.0.0.0/8 local 0 0 1")[0]
	checkCheck(t, o, api.OK)
	o.Hop = 0
	checkCheck(t, o, api.ErrRange)
}

// TestCheckOfErrors has every combination of good and bad values of the fields.
func TestCheckOfErrors(t *testing.T) {
	prefixes := append(badPrefixes(), badPrefix{prefix(four(8), 29), api.OK}, badPrefix{prefix(six(8, 0), 61), api.OK})
	counts := append(badNumbers(), 0, 1, api.MaxHop)
	for _, p := range prefixes {
		for source := api.Local - 2; source <= api.Far+2; source++ {
			for _, peer := range counts {
				for _, metric := range counts {
					for _, hop := range counts {
						o := api.Offer{Prefix: p.p, Source: source, Peer: peer, Metric: metric, Hop: hop}
						want := p.e
						switch {
						case want != api.OK:
						case source < 1 || source > 4:
							want = api.ErrKind
						case peer < 0 || peer > 999 || metric < 0 || metric > 999 || hop < 1 || hop > 999:
							want = api.ErrRange
						}
						checkCheck(t, o, want)
					}
				}
			}
		}
	}
	for _, b := range badOffers() {
		checkCheck(t, b.o, b.e)
	}
}

// TestReplaced has offers of the same prefix, source and peer: the last one stands, also if it is worse.
func TestReplaced(t *testing.T) {
	cases := []struct {
		l, want []string
	}{
		{[]string{"10.0.0.0/8 far 1 5 1", "10.0.0.0/8 far 1 9 2"}, []string{"10.0.0.0/8 far 1 9 2"}},
		{[]string{"10.0.0.0/8 far 1 9 1", "10.0.0.0/8 far 1 5 2"}, []string{"10.0.0.0/8 far 1 5 2"}},
		{[]string{"10.0.0.0/8 far 1 5 2", "10.0.0.0/8 far 1 5 1"}, []string{"10.0.0.0/8 far 1 5 1"}},
		{[]string{"::/0 local 0 1 1", "::/0 local 0 0 2", "::/0 local 0 998 3"}, []string{"::/0 local 0 998 3"}},
		// Offers of other origins in between do not change that.
		{[]string{"10.0.0.0/8 far 1 5 1", "10.0.0.0/8 far 2 7 2", "10.0.0.0/8 far 1 9 3"}, []string{"10.0.0.0/8 far 2 7 2"}},
		{[]string{"10.0.0.0/8 far 1 5 1", "10.0.0.0/9 far 1 7 2", "10.0.0.0/8 far 1 9 3"}, []string{"10.0.0.0/8 far 1 9 3", "10.0.0.0/9 far 1 7 2"}},
		// Each of the three makes another origin.
		{[]string{"10.0.0.0/8 far 1 5 1", "10.0.0.0/8 far 2 9 2"}, []string{"10.0.0.0/8 far 1 5 1"}},
		{[]string{"10.0.0.0/8 near 1 5 1", "10.0.0.0/8 far 1 0 2"}, []string{"10.0.0.0/8 near 1 5 1"}},
		{[]string{"10.0.0.0/8 far 1 5 1", "10.0.0.0/9 far 1 9 2"}, []string{"10.0.0.0/8 far 1 5 1", "10.0.0.0/9 far 1 9 2"}},
		{[]string{"10.0.0.0/8 far 1 5 1", "11.0.0.0/8 far 1 9 2"}, []string{"10.0.0.0/8 far 1 5 1", "11.0.0.0/8 far 1 9 2"}},
		{[]string{"0.0.0.0/0 far 1 5 1", "::/0 far 1 9 2"}, []string{"0.0.0.0/0 far 1 5 1", "::/0 far 1 9 2"}},
	}
	for _, c := range cases {
		l := read(t, c.l...)
		checkBest(t, l, read(t, c.want...), api.OK)
		checkBoth(t, l)
	}
}

func TestWithdrawn(t *testing.T) {
	cases := []struct {
		l, want []string
	}{
		{[]string{"10.0.0.0/8 far 1 999 1"}, nil},
		{[]string{"10.0.0.0/8 far 1 998 1"}, []string{"10.0.0.0/8 far 1 998 1"}},
		{[]string{"10.0.0.0/8 far 1 5 1", "10.0.0.0/8 far 1 999 1"}, nil},
		// The hop of a withdrawal does not matter.
		{[]string{"10.0.0.0/8 far 1 5 1", "10.0.0.0/8 far 1 999 2"}, nil},
		{[]string{"10.0.0.0/8 far 1 5 1", "10.0.0.0/8 far 1 999 1", "10.0.0.0/8 far 1 999 1"}, nil},
		// It removes what is earlier only, and all of it.
		{[]string{"10.0.0.0/8 far 1 999 1", "10.0.0.0/8 far 1 5 1"}, []string{"10.0.0.0/8 far 1 5 1"}},
		{[]string{"10.0.0.0/8 far 1 5 1", "10.0.0.0/8 far 1 999 1", "10.0.0.0/8 far 1 7 2"}, []string{"10.0.0.0/8 far 1 7 2"}},
		{[]string{"10.0.0.0/8 far 1 5 1", "10.0.0.0/8 far 1 7 2", "10.0.0.0/8 far 1 999 1"}, nil},
		// It leaves the offers of other origins.
		{[]string{"10.0.0.0/8 far 1 5 1", "10.0.0.0/8 far 2 999 1"}, []string{"10.0.0.0/8 far 1 5 1"}},
		{[]string{"10.0.0.0/8 far 1 5 1", "10.0.0.0/8 near 1 999 1"}, []string{"10.0.0.0/8 far 1 5 1"}},
		{[]string{"10.0.0.0/8 far 1 5 1", "10.0.0.0/9 far 1 999 1"}, []string{"10.0.0.0/8 far 1 5 1"}},
		{[]string{"10.0.0.0/9 far 1 5 1", "10.0.0.0/8 far 1 999 1"}, []string{"10.0.0.0/9 far 1 5 1"}},
		{[]string{"10.0.0.0/8 far 1 5 1", "11.0.0.0/8 far 1 999 1"}, []string{"10.0.0.0/8 far 1 5 1"}},
		{[]string{"0.0.0.0/0 far 1 5 1", "::/0 far 1 999 1"}, []string{"0.0.0.0/0 far 1 5 1"}},
		// The next best one stands then.
		{[]string{"10.0.0.0/8 local 1 5 1", "10.0.0.0/8 far 2 6 2", "10.0.0.0/8 local 1 999 1"}, []string{"10.0.0.0/8 far 2 6 2"}},
		{[]string{"10.0.0.0/8 far 1 5 1", "10.0.0.0/8 far 2 6 2", "10.0.0.0/8 far 3 7 3", "10.0.0.0/8 far 1 999 1"}, []string{"10.0.0.0/8 far 2 6 2"}},
	}
	for _, c := range cases {
		l := read(t, c.l...)
		checkBest(t, l, read(t, c.want...), api.OK)
		checkBoth(t, l)
	}
}

// P8.2

func TestExamples(t *testing.T) {
	local := read(t, "10.0.0.0/8 far 0 3 1", "10.0.0.0/8 local 0 7 2")
	checkBest(t, local, local[1:], api.OK)
	above := read(t, "10.1.0.0/16 far 1 1 2", "10.0.0.0/8 local 1 1 1")
	checkTable(t, above, routes(t, "10.0.0.0/8 1"), api.OK)
	checkBoth(t, above)
}

// TestBestOfOnePrefix has every pair and triple of offers for one prefix, in which sources, metrics and peers disagree.
func TestBestOfOnePrefix(t *testing.T) {
	var all []api.Offer
	for _, p := range []api.Prefix{prefix(four(8), 29), prefix(six(8, 0), 61)} {
		all = nil
		for source := api.Local; source <= api.Far; source++ {
			for metric := range 2 {
				for peer := range 3 {
					all = append(all, api.Offer{Prefix: p, Source: source, Peer: peer, Metric: 10 * metric, Hop: len(all) + 1})
				}
			}
		}
		for _, o := range all {
			checkBest(t, []api.Offer{o}, []api.Offer{o}, api.OK)
			for _, q := range all {
				checkBoth(t, []api.Offer{o, q})
				for _, r := range all {
					checkBoth(t, []api.Offer{o, q, r})
				}
			}
		}
	}
	// They are in the order in which each one is the best of those behind it, but that peers differ.
	for i := range all {
		all[i].Peer += 10 * i
		all[i].Metric += i
	}
	rnd := rand.New(rand.NewSource(81))
	for i := range all {
		rest := slices.Clone(all[i:])
		for range 5 {
			rnd.Shuffle(len(rest), func(i, j int) { rest[i], rest[j] = rest[j], rest[i] })
			checkBest(t, rest, all[i:i+1], api.OK)
		}
	}
}

func TestBest(t *testing.T) {
	cases := []struct {
		l, want []string
	}{
		{nil, nil},
		// The source counts before the metric, and that before the peer; the hop and the place do not count.
		{[]string{"10.0.0.0/8 fixed 0 0 1", "10.0.0.0/8 local 999 998 999"}, []string{"10.0.0.0/8 local 999 998 999"}},
		{[]string{"10.0.0.0/8 near 0 0 1", "10.0.0.0/8 fixed 999 998 999"}, []string{"10.0.0.0/8 fixed 999 998 999"}},
		{[]string{"10.0.0.0/8 far 0 0 1", "10.0.0.0/8 near 999 998 999"}, []string{"10.0.0.0/8 near 999 998 999"}},
		{[]string{"10.0.0.0/8 far 0 9 1", "10.0.0.0/8 far 999 8 999"}, []string{"10.0.0.0/8 far 999 8 999"}},
		{[]string{"10.0.0.0/8 far 10 9 1", "10.0.0.0/8 far 9 9 999"}, []string{"10.0.0.0/8 far 9 9 999"}},
		{[]string{"10.0.0.0/8 far 9 9 2", "10.0.0.0/8 far 10 9 1"}, []string{"10.0.0.0/8 far 9 9 2"}},
		{[]string{"10.0.0.0/8 far 9 10 2", "10.0.0.0/8 far 10 100 1", "10.0.0.0/8 far 11 9 1"}, []string{"10.0.0.0/8 far 11 9 1"}},
		// Each prefix has a best one, whatever covers it.
		{[]string{"10.0.0.0/9 far 0 9 1", "10.0.0.0/8 local 0 0 2", "::/0 near 3 4 5", "10.0.0.0/9 far 1 8 3"}, []string{"10.0.0.0/8 local 0 0 2", "10.0.0.0/9 far 1 8 3", "::/0 near 3 4 5"}},
	}
	for _, c := range cases {
		l := read(t, c.l...)
		checkBest(t, l, read(t, c.want...), api.OK)
		checkBoth(t, l)
	}
	checkBest(t, []api.Offer{}, nil, api.OK)
	checkTable(t, []api.Offer{}, nil, api.OK)
	checkTable(t, nil, nil, api.OK)
}

// ordered lists texts of prefixes in the order of chapter 3.
func ordered() []string {
	return []string{
		"0.0.0.0/0", "0.0.0.0/1", "0.0.0.0/32", "0.0.0.1/32", "9.0.0.0/8", "10.0.0.0/7", "10.0.0.0/8", "10.0.0.0/9", "10.0.0.0/32",
		"10.64.0.0/10", "10.128.0.0/9", "128.0.0.0/1", "255.255.255.255/32",
		"::/0", "::/1", "::/64", "::/128", "::1/128", "::a00:0/104", "::1:0:0:0/80", "::8000:0:0:0/65", "0:0:0:1::/64", "0:0:0:1::/65",
		"1::/16", "8000::/1", "ffff:ffff:ffff:ffff::/64", "ffff:ffff:ffff:ffff:ffff:ffff:ffff:ffff/128",
	}
}

// TestOrder has offers of prefixes in any order; no other field has to do with the order of the results.
func TestOrder(t *testing.T) {
	rnd := rand.New(rand.NewSource(82))
	for range 100 {
		var want []api.Offer
		var table []api.Route
		for _, text := range ordered() {
			o := api.Offer{Prefix: at(t, text), Source: api.Local + rnd.Intn(3), Peer: rnd.Intn(99), Metric: rnd.Intn(99), Hop: 1 + rnd.Intn(99)}
			want = append(want, o)
			table = append(table, api.Route{Prefix: o.Prefix, Hop: o.Hop})
		}
		l := slices.Clone(want)
		rnd.Shuffle(len(l), func(i, j int) { l[i], l[j] = l[j], l[i] })
		checkBest(t, l, want, api.OK)
		checkTable(t, l, table, api.OK)
	}
}

// TestOfAllLists has every list of up to four offers and withdrawals of some origins.
func TestOfAllLists(t *testing.T) {
	all := read(t, "10.0.0.0/8 far 1 5 1", "10.0.0.0/8 far 1 3 2", "10.0.0.0/8 far 1 999 3", "10.0.0.0/8 near 1 5 4", "10.0.0.0/8 near 1 999 5",
		"10.0.0.0/9 far 1 4 6", "10.0.0.0/9 far 2 4 7", "10.0.0.0/9 far 2 999 8", "0.0.0.0/0 fixed 1 9 9")
	lists := [][]api.Offer{nil}
	for len(lists[0]) < 4 {
		var longer [][]api.Offer
		for _, l := range lists {
			checkBoth(t, l)
			for _, o := range all {
				longer = append(longer, append(slices.Clone(l), o))
			}
		}
		lists = longer
	}
	for _, l := range lists {
		checkBoth(t, l)
	}
}

func TestTable(t *testing.T) {
	cases := []struct {
		l, want []string
	}{
		// What has another source is not omitted, whatever covers it.
		{[]string{"10.0.0.0/8 local 0 0 1", "10.1.0.0/16 near 0 0 2"}, []string{"10.0.0.0/8 1", "10.1.0.0/16 2"}},
		{[]string{"10.0.0.0/8 near 0 0 1", "10.1.0.0/16 fixed 0 0 2", "10.1.1.0/24 local 0 0 3"}, []string{"10.0.0.0/8 1", "10.1.0.0/16 2", "10.1.1.0/24 3"}},
		// Each other source omits far ones.
		{[]string{"10.0.0.0/8 local 9 998 1", "10.1.0.0/16 far 0 0 2"}, []string{"10.0.0.0/8 1"}},
		{[]string{"10.0.0.0/8 fixed 9 998 1", "10.1.0.0/16 far 0 0 2"}, []string{"10.0.0.0/8 1"}},
		{[]string{"10.0.0.0/8 near 9 998 1", "10.1.0.0/16 far 0 0 2"}, []string{"10.0.0.0/8 1"}},
		{[]string{"10.0.0.0/8 far 0 0 1", "10.1.0.0/16 far 9 998 2"}, []string{"10.0.0.0/8 1", "10.1.0.0/16 2"}},
		// The prefix itself has a best offer of another source then.
		{[]string{"10.0.0.0/8 far 0 0 1", "10.0.0.0/8 near 9 998 2"}, []string{"10.0.0.0/8 2"}},
		// A longer prefix, one beside it, and one of the other family do not cover it.
		{[]string{"10.0.0.0/8 far 0 0 1", "10.0.0.0/9 local 0 0 2"}, []string{"10.0.0.0/8 1", "10.0.0.0/9 2"}},
		{[]string{"10.0.0.0/9 local 0 0 1", "10.128.0.0/9 local 0 0 2", "10.0.0.0/8 far 0 0 3"}, []string{"10.0.0.0/8 3", "10.0.0.0/9 1", "10.128.0.0/9 2"}},
		{[]string{"10.0.0.0/8 local 0 0 1", "11.0.0.0/8 far 0 0 2"}, []string{"10.0.0.0/8 1", "11.0.0.0/8 2"}},
		{[]string{"0.0.0.0/0 local 0 0 1", "::/0 far 0 0 2", "::/96 far 0 0 3"}, []string{"0.0.0.0/0 1", "::/0 2", "::/96 3"}},
		{[]string{"::/0 local 0 0 1", "0.0.0.0/0 far 0 0 2", "1.2.3.4/32 far 0 0 3"}, []string{"0.0.0.0/0 2", "1.2.3.4/32 3", "::/0 1"}},
		{[]string{"::/0 near 0 0 1", "::1/128 far 0 0 2", "ffff::/16 far 0 0 3"}, []string{"::/0 1"}},
		{[]string{"0.0.0.0/0 near 0 0 1", "0.0.0.0/32 far 0 0 2", "255.255.255.255/32 far 0 0 3"}, []string{"0.0.0.0/0 1"}},
		// Offers in between, be they far or not, change nothing.
		{[]string{"10.0.0.0/8 local 0 0 1", "10.1.0.0/16 far 0 0 2", "10.1.1.0/24 far 0 0 3"}, []string{"10.0.0.0/8 1"}},
		{[]string{"10.0.0.0/8 far 0 0 1", "10.1.0.0/16 near 0 0 2", "10.1.1.0/24 far 0 0 3"}, []string{"10.0.0.0/8 1", "10.1.0.0/16 2"}},
		{[]string{"10.0.0.0/8 near 0 0 1", "10.1.0.0/16 far 0 0 2", "10.1.1.0/24 near 0 0 3", "10.1.1.0/25 far 0 0 4"}, []string{"10.0.0.0/8 1", "10.1.1.0/24 3"}},
		// An offer that does not stand omits nothing.
		{[]string{"10.0.0.0/8 local 0 0 1", "10.1.0.0/16 far 0 0 2", "10.0.0.0/8 local 0 999 1"}, []string{"10.1.0.0/16 2"}},
		{[]string{"10.0.0.0/8 local 0 0 1", "10.0.0.0/8 far 7 7 3", "10.1.0.0/16 far 0 0 2", "10.0.0.0/8 local 0 999 1"}, []string{"10.0.0.0/8 3", "10.1.0.0/16 2"}},
		{[]string{"10.0.0.0/8 local 0 999 1", "10.1.0.0/16 far 0 0 2"}, []string{"10.1.0.0/16 2"}},
		// A worse offer of another source for the prefix above is none of the best.
		{[]string{"10.0.0.0/8 far 0 0 1", "10.0.0.0/8 near 0 0 2", "10.1.0.0/16 far 0 0 3", "10.0.0.0/8 near 0 999 2"}, []string{"10.0.0.0/8 1", "10.1.0.0/16 3"}},
	}
	for _, c := range cases {
		l := read(t, c.l...)
		checkTable(t, l, routes(t, c.want...), api.OK)
		checkBoth(t, l)
		slices.Reverse(l)
		checkBoth(t, l)
	}
}

// TestOfRandomLists has few prefixes that cover each other, with many offers of few origins.
func TestOfRandomLists(t *testing.T) {
	rnd := rand.New(rand.NewSource(83))
	omitted := 0
	for range 1000 {
		var l []api.Offer
		sources, peers, lens := 1+rnd.Intn(4), 1+rnd.Intn(4), 1+rnd.Intn(4)
		for range rnd.Intn(api.MaxActs + 1) {
			n := rnd.Intn(lens + 1)
			bits := uint64(rnd.Intn(1 << n))
			p := prefix(four(bits<<(32-n)), n)
			if rnd.Intn(3) == 0 {
				p = prefix(six(0, bits<<(64-n)), 64+n)
			}
			o := api.Offer{Prefix: p, Source: api.Far - rnd.Intn(sources), Peer: rnd.Intn(peers), Metric: rnd.Intn(3), Hop: 1 + rnd.Intn(api.MaxHop)}
			if rnd.Intn(4) == 0 {
				o = withdrawal(o)
			}
			l = append(l, o)
		}
		checkBoth(t, l)
		omitted += len(modelBest(l)) - len(modelTable(l))
	}
	if omitted < 1000 {
		t.Errorf("%d omitted routes", omitted)
	}
}

func TestBestOfSizes(t *testing.T) {
	all := many(api.MaxActs + 1)
	for n := range api.MaxActs + 1 {
		checkBest(t, all[:n], modelBest(all[:n]), api.OK)
	}
	if got, _ := offers.Best(all[:api.MaxActs]); len(got) != api.MaxActs {
		t.Errorf("%d offers, want %d", len(got), api.MaxActs)
	}
	checkBest(t, all, nil, api.ErrSize)
	checkTable(t, all, nil, api.ErrSize)
	// All of them count, also those that are replaced or withdrawn, and those that withdraw.
	for _, o := range []api.Offer{all[0], withdrawal(all[0])} {
		for _, n := range []int{api.MaxActs + 1, 2 * api.MaxActs} {
			checkBest(t, slices.Repeat([]api.Offer{o}, n), nil, api.ErrSize)
			checkTable(t, slices.Repeat([]api.Offer{o}, n), nil, api.ErrSize)
		}
		checkBoth(t, slices.Repeat([]api.Offer{o}, api.MaxActs))
	}
}

// TestTableOfSizes has as many routes as a table has room for, and more.
func TestTableOfSizes(t *testing.T) {
	all := many(api.MaxActs)
	for n := range api.MaxActs + 1 {
		if n <= api.MaxRoutes {
			checkTable(t, all[:n], modelTable(all[:n]), api.OK)
		} else {
			checkTable(t, all[:n], nil, api.ErrFull)
		}
	}
	// Only routes need room: neither offers that are replaced or withdrawn, nor other ones of the same prefix.
	full := all[:api.MaxRoutes]
	for _, more := range [][]api.Offer{nil, full[:40], full[20:]} {
		l := slices.Clone(more)
		for i := range l {
			l[i].Peer, l[i].Metric = l[i].Peer+i%2*500, l[i].Metric+i%3
		}
		checkBoth(t, slices.Concat(l, full))
		checkBoth(t, slices.Concat(full, l))
	}
	last := all[api.MaxRoutes]
	checkTable(t, slices.Concat(full, []api.Offer{last}), nil, api.ErrFull)
	checkBoth(t, slices.Concat(full, []api.Offer{last, withdrawal(last)}))
	checkBoth(t, slices.Concat(full, []api.Offer{last, withdrawal(full[7])}))
}

// TestTableOfOmittedRoutes has more best offers than a table has room for: one that omits others, and far ones that are omitted or stay.
func TestTableOfOmittedRoutes(t *testing.T) {
	for _, omitted := range []int{0, 1, 20, 38, 39, 40, 41, api.MaxActs - 1} {
		for stay := range api.MaxActs - omitted {
			l := read(t, "::/0 local 1 1 1")
			for i := range omitted {
				l = append(l, api.Offer{Prefix: prefix(six(uint64(i+1), 0), 64), Source: api.Far, Hop: 1})
			}
			for i := range stay {
				l = append(l, api.Offer{Prefix: prefix(four(uint64(i)), 32), Source: api.Far, Hop: 1})
			}
			if 1+stay <= api.MaxRoutes {
				checkTable(t, l, modelTable(l), api.OK)
			} else {
				checkTable(t, l, nil, api.ErrFull)
			}
		}
	}
}

func TestOfErrors(t *testing.T) {
	good := many(api.MaxActs)
	for _, b := range badOffers() {
		checkBest(t, []api.Offer{b.o}, nil, b.e)
		checkTable(t, []api.Offer{b.o}, nil, b.e)
		for _, i := range []int{0, 1, 50, api.MaxActs - 1} {
			l := slices.Clone(good)
			l[i] = b.o
			checkBest(t, l, nil, b.e)
			// That counts before the room for all these routes.
			checkTable(t, l, nil, b.e)
			// A later offer, or a withdrawal, of the same origin does not save the list.
			short := []api.Offer{good[0], b.o, good[1], b.o, withdrawal(b.o)}
			checkBest(t, short, nil, b.e)
			checkTable(t, short, nil, b.e)
		}
		// The first one counts, and the size before all of them.
		for _, c := range badOffers() {
			for _, l := range [][]api.Offer{{b.o, c.o}, {good[0], b.o, good[1], c.o}} {
				checkBest(t, l, nil, b.e)
				checkTable(t, l, nil, b.e)
			}
		}
		checkBest(t, slices.Repeat([]api.Offer{b.o}, api.MaxActs), nil, b.e)
		checkBest(t, slices.Repeat([]api.Offer{b.o}, api.MaxActs+1), nil, api.ErrSize)
		checkTable(t, slices.Repeat([]api.Offer{b.o}, api.MaxActs+1), nil, api.ErrSize)
	}
}

// TestMemory has a list with spare capacity: neither it nor that may change, also not when results are changed.
func TestMemory(t *testing.T) {
	l := many(api.MaxRoutes)
	before := slices.Clone(l)
	results := func() ([]api.Offer, []api.Route) {
		best, _ := offers.Best(l[:40])
		table, _ := offers.Table(l[:40])
		return best, table
	}
	best, table := results()
	bestBefore, tableBefore := slices.Clone(best), slices.Clone(table)
	bestAgain, tableAgain := results()
	fill(best[:cap(best)], api.Offer{Hop: 99})
	fill(table[:cap(table)], api.Route{Hop: 99})
	if !slices.Equal(l, before) {
		t.Errorf("the argument has changed")
	}
	if !slices.Equal(bestAgain, bestBefore) || !slices.Equal(tableAgain, tableBefore) {
		t.Errorf("results of two calls share memory, or differ")
	}
	if len(bestAgain) != 40 || len(tableAgain) != 40 {
		t.Errorf("%d offers and %d routes, want 40 of each", len(bestAgain), len(tableAgain))
	}
}

func fill[T any](l []T, v T) {
	for i := range l {
		l[i] = v
	}
}
