package fewest_test

import (
	"fmt"
	"maps"
	"math"
	"math/rand"
	"slices"
	"strconv"
	"strings"
	"testing"

	"whipcord/api"
	"whipcord/fewest"
	"whipcord/pre"
	"whipcord/table"
)

const maxFour = 1<<32 - 1

func four(lo uint64) api.Addr {
	return api.Addr{Lo: lo}
}

func six(hi, lo uint64) api.Addr {
	return api.Addr{Six: true, Hi: hi, Lo: lo}
}

func prefix(a api.Addr, n int) api.Prefix {
	return api.Prefix{Addr: a, Len: n}
}

// to reads a route, so that the tests can name it as the document does.
func to(t *testing.T, text string, hop int) api.Route {
	t.Helper()
	p, e := pre.Parse(text)
	if e != api.OK {
		t.Fatalf("Parse(%q): %v", text, e)
	}
	return api.Route{Prefix: p, Hop: hop}
}

// routes reads a table: texts of prefixes, each one with a blank and its hop.
func routes(t *testing.T, texts ...string) []api.Route {
	t.Helper()
	var l []api.Route
	for _, text := range texts {
		p, hop, _ := strings.Cut(text, " ")
		n, err := strconv.Atoi(hop)
		if err != nil {
			t.Fatal(err)
		}
		l = append(l, to(t, p, n))
	}
	return l
}

// route is the route for the prefix of these bits, written as a text of 0 and 1 behind the digit 4 or 6 of the family.
func route(digits string, hop int) api.Route {
	n := len(digits) - 1
	if digits[0] == '4' {
		lo, _ := strconv.ParseUint(digits[1:]+strings.Repeat("0", 32-n), 2, 64)
		return api.Route{Prefix: prefix(four(lo), n), Hop: hop}
	}
	all := digits[1:] + strings.Repeat("0", 128-n)
	hi, _ := strconv.ParseUint(all[:64], 2, 64)
	lo, _ := strconv.ParseUint(all[64:], 2, 64)
	return api.Route{Prefix: prefix(six(hi, lo), n), Hop: hop}
}

func digitsOf(p api.Prefix) string {
	if p.Addr.Six {
		return "6" + fmt.Sprintf("%064b%064b", p.Addr.Hi, p.Addr.Lo)[:p.Len]
	}
	return "4" + fmt.Sprintf("%032b", p.Addr.Lo)[:p.Len]
}

// model is a table: hops by the texts of prefixes.
type model map[string]int

func modelOf(l []api.Route) model {
	m := model{}
	for _, r := range l {
		m[digitsOf(r.Prefix)] = r.Hop
	}
	return m
}

func (m model) routes() []api.Route {
	var l []api.Route
	for _, s := range slices.Sorted(maps.Keys(m)) {
		l = append(l, route(s, m[s]))
	}
	return l
}

// at is the hop of the prefix s, if a shorter one has hop.
func (m model) at(s string, hop int) int {
	if h, ok := m[s]; ok {
		return h
	}
	return hop
}

// ends reports whether no prefix is longer than s and begins with it.
func (m model) ends(s string) bool {
	for p := range m {
		if len(p) > len(s) && strings.HasPrefix(p, s) {
			return false
		}
	}
	return true
}

// same compares two tables within the prefix s, where shorter prefixes have hops.
func same(s string, l, m model, hopL, hopM int) bool {
	hopL, hopM = l.at(s, hopL), m.at(s, hopM)
	if l.ends(s) && m.ends(s) {
		return hopL == hopM
	}
	return same(s+"0", l, m, hopL, hopM) && same(s+"1", l, m, hopL, hopM)
}

func equivalent(l, m []api.Route) bool {
	return same("4", modelOf(l), modelOf(m), 0, 0) && same("6", modelOf(l), modelOf(m), 0, 0)
}

// least is the smallest number of routes of a table that is equivalent to m.
func (m model) least() int {
	hops := []int{0}
	for _, hop := range m {
		hops = append(hops, hop)
	}
	slices.Sort(hops)
	return m.needs("4", 0, slices.Compact(hops))[0]
}

// needs lists, for each hop that a shorter prefix may have (the first one, 0: none has one), how many routes are needed within s: with one for s itself, or without it.
func (m model) needs(s string, hop int, hops []int) []int {
	hop = m.at(s, hop)
	out := make([]int, len(hops))
	if !m.ends(s) {
		high := m.needs(s+"1", hop, hops)
		for i, n := range m.needs(s+"0", hop, hops) {
			out[i] = n + high[i]
		}
	} else {
		for i, h := range hops {
			if h != hop {
				out[i] = math.MaxInt32
			}
		}
	}
	with := 1 + slices.Min(out[1:])
	for i, n := range out {
		out[i] = min(n, with)
	}
	return out
}

func checkSame(t *testing.T, l, m []api.Route, want bool, wantE api.Errno) {
	t.Helper()
	if got, e := fewest.Same(l, m); got != want || e != wantE {
		t.Errorf("Same(%v, %v): %v %v, want %v %v", l, m, got, e, want, wantE)
	}
}

// checkBoth checks Same either way round.
func checkBoth(t *testing.T, l, m []api.Route, want bool) {
	t.Helper()
	checkSame(t, l, m, want, api.OK)
	checkSame(t, m, l, want, api.OK)
}

// checkFewest checks that the result is valid, equivalent and of the size n.
func checkFewest(t *testing.T, l []api.Route, n int) {
	t.Helper()
	got, e := fewest.Fewest(l)
	if e != api.OK || len(got) != n {
		t.Errorf("Fewest(%v): %v %v, want %d routes", l, got, e, n)
		return
	}
	if e := table.Check(got); e != api.OK {
		t.Errorf("Fewest(%v): %v, which is no table: %v", l, got, e)
	}
	if !equivalent(l, got) {
		t.Errorf("Fewest(%v): %v, which is not equivalent", l, got)
	}
	checkSame(t, l, got, true, api.OK)
}

func checkFewestError(t *testing.T, l []api.Route, want api.Errno) {
	t.Helper()
	if got, e := fewest.Fewest(l); len(got) != 0 || e != want {
		t.Errorf("Fewest(%v): %v %v, want %v", l, got, e, want)
	}
}

// below lists the prefixes that begin with s and have up to more bits behind it.
func below(s string, more int) []string {
	out := []string{s}
	if more > 0 {
		out = slices.Concat(out, below(s+"0", more-1), below(s+"1", more-1))
	}
	return out
}

// eachModel passes every table of the prefixes and the hops from 1 to most to work.
func eachModel(prefixes []string, most int, work func(model)) {
	m := model{}
	var choose func(i int)
	choose = func(i int) {
		if i == len(prefixes) {
			work(m)
			return
		}
		choose(i + 1)
		for hop := range most {
			m[prefixes[i]] = 1 + hop
			choose(i + 1)
		}
		delete(m, prefixes[i])
	}
	choose(0)
}

// cells is what the table routes within s, by more bits.
func (m model) cells(s string, more, hop int) string {
	hop = m.at(s, hop)
	if more == 0 {
		return strconv.Itoa(hop)
	}
	return m.cells(s+"0", more-1, hop) + m.cells(s+"1", more-1, hop)
}

// randomModel is a table with most routes at most, of which several may be in one place.
func randomModel(rnd *rand.Rand, families string, most, hops int) model {
	m := model{}
	for range most {
		family := families[rnd.Intn(len(families))]
		digits := fmt.Sprintf("%064b%064b", rnd.Uint64(), rnd.Uint64())
		start := []string{"", "0001", strings.Repeat("01", 14), digits[:8]}[rnd.Intn(4)]
		longest := min([]int{4, 8, 32, 128}[rnd.Intn(4)], 32-len(start))
		if family == '6' && rnd.Intn(2) == 0 {
			start, longest = strings.Repeat("110", 41), 5
		}
		m[string(family)+start+digits[64:64+rnd.Intn(longest+1)]] = 1 + rnd.Intn(hops)
	}
	return m
}

// P6.1

func TestSameInAnyOrder(t *testing.T) {
	l := routes(t, "0.0.0.0/0 1", "10.0.0.0/8 2", "10.1.0.0/16 3", "::/0 4", "2001:db8::/32 5", "255.255.255.255/32 6")
	m := slices.Clone(l)
	rnd := rand.New(rand.NewSource(6))
	for range 50 {
		checkBoth(t, l, m, true)
		rnd.Shuffle(len(m), func(i, j int) { m[i], m[j] = m[j], m[i] })
	}
	for i := range l {
		checkBoth(t, l, slices.Delete(slices.Clone(l), i, i+1), false)
		other := slices.Clone(m)
		other[i].Hop += 10
		checkBoth(t, l, other, false)
	}
}

func TestSameOfNothing(t *testing.T) {
	for _, l := range [][]api.Route{nil, {}} {
		checkBoth(t, l, nil, true)
		checkBoth(t, l, []api.Route{}, true)
		for _, text := range []string{"0.0.0.0/0", "0.0.0.0/32", "255.255.255.255/32", "::/0", "::/128", "::1/128", "ffff:ffff:ffff:ffff:ffff:ffff:ffff:ffff/128"} {
			m := []api.Route{to(t, text, 1)}
			checkBoth(t, l, m, false)
			checkBoth(t, m, m, true)
			checkBoth(t, m, []api.Route{to(t, text, 2)}, false)
		}
	}
}

func TestSame(t *testing.T) {
	cases := []struct {
		l, m []string
		want bool
	}{
		// Only the hop counts, not the length of the prefix that decided it.
		{[]string{"10.0.0.0/8 1"}, []string{"10.0.0.0/9 1", "10.128.0.0/9 1"}, true},
		{[]string{"10.0.0.0/8 1"}, []string{"10.0.0.0/8 1", "10.1.0.0/16 1"}, true},
		{[]string{"0.0.0.0/0 1"}, []string{"0.0.0.0/1 1", "128.0.0.0/1 1"}, true},
		{[]string{"::/0 1"}, []string{"::/1 1", "8000::/1 1"}, true},
		{[]string{"10.0.0.0/8 1"}, []string{"10.0.0.0/8 2", "10.0.0.0/9 1", "10.128.0.0/9 1"}, true},
		{[]string{"10.0.0.0/8 1", "10.0.0.0/9 2"}, []string{"10.0.0.0/8 2", "10.128.0.0/9 1"}, true},
		{[]string{"10.0.0.0/8 1", "10.0.0.0/9 2"}, []string{"10.0.0.0/9 2", "10.128.0.0/9 1"}, true},
		{[]string{"10.0.0.0/8 1"}, []string{"10.0.0.0/8 2", "10.0.0.0/9 1"}, false},
		{[]string{"10.0.0.0/8 1"}, []string{"10.0.0.0/9 1", "10.128.0.0/9 2"}, false},
		{[]string{"10.0.0.0/8 1"}, []string{"10.0.0.0/9 1"}, false},
		{[]string{"10.0.0.0/8 1"}, []string{"10.128.0.0/9 1"}, false},
		{[]string{"10.0.0.0/8 1"}, []string{"11.0.0.0/8 1"}, false},
		// They differ in one address.
		{[]string{"0.0.0.0/0 1"}, []string{"0.0.0.0/0 1", "0.0.0.0/32 2"}, false},
		{[]string{"0.0.0.0/0 1"}, []string{"0.0.0.0/0 1", "255.255.255.255/32 2"}, false},
		{[]string{"0.0.0.0/0 1"}, []string{"0.0.0.0/0 1", "10.1.2.3/32 2"}, false},
		{[]string{"0.0.0.0/0 1", "10.1.2.2/31 2"}, []string{"0.0.0.0/0 1", "10.1.2.2/31 2", "10.1.2.3/32 1"}, false},
		{[]string{"::/0 1"}, []string{"::/0 1", "::/128 2"}, false},
		{[]string{"::/0 1"}, []string{"::/0 1", "ffff:ffff:ffff:ffff:ffff:ffff:ffff:ffff/128 2"}, false},
		{[]string{"::/0 1"}, []string{"::/0 1", "::ffff:ffff:ffff:ffff/128 2"}, false},
		// The families are apart, also with the same bits.
		{[]string{"0.0.0.0/0 1"}, []string{"::/0 1"}, false},
		{[]string{"0.0.0.0/0 1", "::/0 1"}, []string{"0.0.0.0/0 1"}, false},
		{[]string{"0.0.0.0/0 1", "::/0 1"}, []string{"::/0 1"}, false},
		{[]string{"0.0.0.0/0 1", "::/0 2"}, []string{"0.0.0.0/0 2", "::/0 1"}, false},
		{[]string{"0.0.0.1/32 1"}, []string{"::1/128 1"}, false},
		{[]string{"0.0.0.0/0 1", "::/0 2"}, []string{"8000::/1 2", "::/1 2", "0.0.0.0/0 1"}, true},
	}
	for _, c := range cases {
		checkBoth(t, routes(t, c.l...), routes(t, c.m...), c.want)
	}
}

// TestSameOfHidden has a prefix whose addresses all have longer ones: its own hop decides nothing until one of these is gone.
func TestSameOfHidden(t *testing.T) {
	for _, s := range []string{"4", "400001010", "4" + strings.Repeat("1", 31), "6", "6" + strings.Repeat("10", 63)} {
		l := model{s: 1, s + "0": 2, s + "1": 3}
		for n := range min(len(s)-1, 30) {
			l[s[:1+n]] = 4
		}
		m := maps.Clone(l)
		for _, hop := range []int{2, 5, api.MaxHop} {
			m[s] = hop
			checkBoth(t, l.routes(), m.routes(), true)
		}
		delete(m, s)
		checkBoth(t, l.routes(), m.routes(), true)
		delete(m, s+"1")
		checkBoth(t, l.routes(), m.routes(), false)
	}
}

// TestSameOfAllTables has every table of the prefixes of four places, with a table for each of the ways to route them.
func TestSameOfAllTables(t *testing.T) {
	for i, s := range []string{"4", "40101", "4" + strings.Repeat("1", 30), "6" + strings.Repeat("0", 126)} {
		rnd := rand.New(rand.NewSource(int64(61 + i)))
		ways := map[string][]api.Route{}
		eachModel(below(s, 2), 2, func(m model) {
			ways[m.cells(s, 2, 0)] = m.routes()
		})
		known := slices.Sorted(maps.Keys(ways))
		if len(known) != 81 {
			t.Fatalf("%d ways to route four places to one of two hops or to none", len(known))
		}
		eachModel(below(s, 2), 2, func(m model) {
			cells := m.cells(s, 2, 0)
			checkSame(t, m.routes(), ways[cells], true, api.OK)
			other := known[rnd.Intn(len(known))]
			checkSame(t, m.routes(), ways[other], other == cells, api.OK)
		})
	}
}

// TestSameOfTablesAtRandom splits prefixes and hides others, and then changes one thing.
func TestSameOfTablesAtRandom(t *testing.T) {
	rnd := rand.New(rand.NewSource(65))
	yes, no := 0, 0
	for range 300 {
		l := randomModel(rnd, "46", 1+rnd.Intn(30), 3)
		m := maps.Clone(l)
		for _, s := range slices.Sorted(maps.Keys(l)) {
			if rnd.Intn(2) == 0 && len(s) < 32 && len(m) < api.MaxRoutes-1 {
				hop := m[s]
				m[s+"0"], m[s+"1"] = m.at(s+"0", hop), m.at(s+"1", hop)
				m[s] = 7
			}
		}
		checkBoth(t, l.routes(), m.routes(), true)
		names := slices.Sorted(maps.Keys(m))
		s := names[rnd.Intn(len(names))]
		if rnd.Intn(2) == 0 {
			delete(m, s)
		} else {
			m[s] = 1 + rnd.Intn(3)
		}
		want := equivalent(l.routes(), m.routes())
		checkBoth(t, l.routes(), m.routes(), want)
		if want {
			yes++
		} else {
			no++
		}
	}
	if yes < 20 || no < 20 {
		t.Errorf("%d pairs of tables are equivalent, %d are not", yes, no)
	}
}

// badTables lists tables with the error of each of them.
func badTables(t *testing.T) []struct {
	l []api.Route
	e api.Errno
} {
	t.Helper()
	whole := to(t, "0.0.0.0/0", 1)
	return []struct {
		l []api.Route
		e api.Errno
	}{
		{full(api.MaxRoutes + 1), api.ErrSize},
		{slices.Repeat([]api.Route{{Hop: -1}}, api.MaxRoutes+1), api.ErrSize},
		{[]api.Route{whole, {Prefix: prefix(four(maxFour+1), 8), Hop: 1}}, api.ErrForm},
		{[]api.Route{whole, {Prefix: prefix(api.Addr{Hi: 1}, 0), Hop: 1}}, api.ErrForm},
		{[]api.Route{whole, {Prefix: prefix(four(0), -1), Hop: 1}}, api.ErrRange},
		{[]api.Route{whole, {Prefix: prefix(four(0), 33), Hop: 1}}, api.ErrRange},
		{[]api.Route{whole, {Prefix: prefix(six(0, 0), 129), Hop: 1}}, api.ErrRange},
		{[]api.Route{whole, {Prefix: prefix(four(0), math.MinInt), Hop: 1}}, api.ErrRange},
		{[]api.Route{whole, {Prefix: prefix(four(0), math.MaxInt), Hop: 1}}, api.ErrRange},
		{[]api.Route{whole, {Prefix: prefix(four(1), 31), Hop: 1}}, api.ErrBits},
		{[]api.Route{whole, {Prefix: prefix(four(0), 1), Hop: 0}}, api.ErrRange},
		{[]api.Route{whole, {Prefix: prefix(four(0), 1), Hop: -1}}, api.ErrRange},
		{[]api.Route{whole, {Prefix: prefix(four(0), 1), Hop: api.MaxHop + 1}}, api.ErrRange},
		{[]api.Route{whole, whole}, api.ErrTwice},
		{[]api.Route{whole, to(t, "10.0.0.0/8", 1), to(t, "10.0.0.0/8", 2)}, api.ErrTwice},
	}
}

// full is a table of n routes: one for all IPv4 addresses, and others that are as deep as can be and cannot be compressed.
func full(n int) []api.Route {
	var l []api.Route
	for i := range n {
		l = append(l, api.Route{Prefix: prefix(four(uint64(i)*0x04010101), 32), Hop: i + 1})
	}
	l[0].Prefix = api.Prefix{}
	return l
}

func TestSameOfErrors(t *testing.T) {
	good := []api.Route{to(t, "0.0.0.0/0", 1)}
	bad := badTables(t)
	for _, b := range bad {
		for _, l := range [][]api.Route{nil, good, b.l[:1]} {
			checkSame(t, b.l, l, false, b.e)
			if table.Check(l) == api.OK {
				checkSame(t, l, b.l, false, b.e)
			}
		}
		// The first table counts before the second one, whatever is wrong with it.
		for _, c := range bad {
			checkSame(t, b.l, c.l, false, b.e)
		}
	}
}

func TestSameOfSizes(t *testing.T) {
	l, m := full(api.MaxRoutes), full(api.MaxRoutes)
	slices.Reverse(m)
	checkBoth(t, l, m, true)
	for i := range m {
		m[i].Hop += 100
		checkBoth(t, l, m, false)
		m[i].Hop -= 100
	}
}

// P6.2

func TestExample(t *testing.T) {
	l := routes(t, "0.0.0.0/0 1", "10.0.0.0/9 2", "10.128.0.0/9 2")
	checkFewest(t, l, 2)
	checkBoth(t, l, routes(t, "0.0.0.0/0 1", "10.0.0.0/8 2"), true)
	checkSame(t, l, l[:2], false, api.OK)
	checkFewestError(t, l[1:], api.ErrNone)
}

func TestFewest(t *testing.T) {
	cases := []struct {
		l []string
		n int
	}{
		{[]string{"0.0.0.0/0 1"}, 1},
		{[]string{"0.0.0.0/0 999"}, 1},
		// What is as above it is not needed, also over several lengths, unless another one is between.
		{[]string{"0.0.0.0/0 1", "10.0.0.0/8 1"}, 1},
		{[]string{"0.0.0.0/0 1", "10.0.0.0/8 1", "10.1.0.0/16 1", "10.1.1.1/32 1"}, 1},
		{[]string{"0.0.0.0/0 1", "10.0.0.0/8 2", "10.1.0.0/16 2"}, 2},
		{[]string{"0.0.0.0/0 1", "10.0.0.0/8 2", "10.1.0.0/16 1"}, 3},
		{[]string{"0.0.0.0/0 1", "10.0.0.0/8 2", "10.1.0.0/16 1", "10.1.1.0/24 2"}, 4},
		// The hop of a hidden prefix is not needed.
		{[]string{"0.0.0.0/0 1", "0.0.0.0/1 2", "128.0.0.0/1 2"}, 1},
		{[]string{"0.0.0.0/0 1", "0.0.0.0/1 2", "128.0.0.0/1 3"}, 2},
		{[]string{"0.0.0.0/0 9", "0.0.0.0/1 8", "0.0.0.0/2 1", "64.0.0.0/2 1", "128.0.0.0/1 8", "128.0.0.0/2 1", "192.0.0.0/2 1"}, 1},
		// The whole has the hop that most parts have, not its own one.
		{[]string{"0.0.0.0/0 1", "0.0.0.0/1 2", "128.0.0.0/2 2"}, 2},
		{[]string{"0.0.0.0/0 1", "0.0.0.0/2 2", "64.0.0.0/2 3", "128.0.0.0/2 2", "192.0.0.0/2 4"}, 3},
		{[]string{"0.0.0.0/0 1", "0.0.0.0/2 2", "64.0.0.0/2 3", "128.0.0.0/2 4", "192.0.0.0/2 5"}, 4},
		{[]string{"0.0.0.0/0 1", "0.0.0.0/2 1", "64.0.0.0/2 2", "128.0.0.0/2 2", "192.0.0.0/2 3"}, 3},
		// The choice within a half depends on the other half.
		{[]string{"0.0.0.0/0 1", "0.0.0.0/2 2", "64.0.0.0/2 3", "128.0.0.0/2 3", "192.0.0.0/2 4"}, 3},
		{[]string{"0.0.0.0/0 1", "0.0.0.0/3 2", "32.0.0.0/3 3", "64.0.0.0/3 4", "96.0.0.0/3 3", "128.0.0.0/1 3"}, 3},
		// One address, at either end.
		{[]string{"0.0.0.0/0 1", "0.0.0.0/32 2"}, 2},
		{[]string{"0.0.0.0/0 1", "255.255.255.255/32 2"}, 2},
		{[]string{"0.0.0.0/0 1", "0.0.0.0/32 2", "0.0.0.1/32 2"}, 2},
		{[]string{"0.0.0.0/0 1", "255.255.255.254/32 2", "255.255.255.255/32 2"}, 2},
		{[]string{"0.0.0.0/0 1", "0.0.0.1/32 2", "0.0.0.2/32 2"}, 3},
		{[]string{"0.0.0.0/0 1", "10.0.0.0/31 2", "10.0.0.2/32 2", "10.0.0.3/32 2"}, 2},
		{[]string{"0.0.0.0/0 1", "10.0.0.0/31 2", "10.0.0.2/32 2"}, 3},
		{[]string{"0.0.0.0/0 1", "10.0.0.0/30 2", "10.0.0.4/31 2", "10.0.0.6/32 2"}, 3},
	}
	rnd := rand.New(rand.NewSource(66))
	for _, c := range cases {
		l := routes(t, c.l...)
		if n := modelOf(l).least(); n != c.n {
			t.Errorf("the model has %d routes for %v", n, c.l)
		}
		for range 10 {
			checkFewest(t, l, c.n)
			rnd.Shuffle(len(l), func(i, j int) { l[i], l[j] = l[j], l[i] })
		}
	}
}

// TestFewestOfAllTables has every table of two, four and eight places, with the size of the smallest one of all those that route alike.
func TestFewestOfAllTables(t *testing.T) {
	for _, c := range []struct{ bits, hops int }{{1, 5}, {2, 3}, {3, 1}} {
		prefixes := below("4", c.bits)
		smallest := map[string]int{}
		eachModel(prefixes, c.hops, func(m model) {
			cells := m.cells("4", c.bits, 0)
			if n, ok := smallest[cells]; !ok || len(m) < n {
				smallest[cells] = len(m)
			}
		})
		eachModel(prefixes, c.hops, func(m model) {
			if m["4"] != 0 {
				checkFewest(t, m.routes(), smallest[m.cells("4", c.bits, 0)])
			}
		})
	}
}

// TestFewestOfEightPlaces has every way to route eight places to one of two hops.
func TestFewestOfEightPlaces(t *testing.T) {
	smallest := map[string]int{}
	eachTable(func(cells [8]byte, n int) {
		if best, ok := smallest[string(cells[:])]; !ok || n < best {
			smallest[string(cells[:])] = n
		}
	})
	for cells, n := range smallest {
		if strings.Contains(cells, "\x00") {
			continue
		}
		l := []api.Route{{Hop: 1}}
		for i := range cells {
			l = append(l, route(fmt.Sprintf("4%03b", i), int(cells[i])))
		}
		checkFewest(t, l, n)
	}
}

// eachTable passes what each table of the prefixes of up to three bits routes to work, with the number of its routes.
func eachTable(work func(cells [8]byte, n int)) {
	var choose func(cells [8]byte, bits, i, n int)
	choose = func(cells [8]byte, bits, i, n int) {
		if bits > 3 {
			work(cells, n)
			return
		}
		if i == 1<<bits {
			choose(cells, bits+1, 0, n)
			return
		}
		choose(cells, bits, i+1, n)
		width := 8 >> bits
		for hop := range byte(2) {
			for j := range width {
				cells[i*width+j] = hop + 1
			}
			choose(cells, bits, i+1, n+1)
		}
	}
	choose([8]byte{}, 0, 0, 0)
}

// TestFewestOfPlaces has every table of four places that are deeper, below a route for all addresses.
func TestFewestOfPlaces(t *testing.T) {
	for _, s := range []string{"40000101", "4" + strings.Repeat("1", 30)} {
		eachModel(below(s, 2), 2, func(m model) {
			for hop := range 2 {
				whole := maps.Clone(m)
				whole["4"] = 1 + hop
				checkFewest(t, whole.routes(), whole.least())
			}
		})
	}
}

// TestFewestOfLengths has the prefixes of all lengths of some addresses, with hops that alternate, or do not.
func TestFewestOfLengths(t *testing.T) {
	for _, a := range []uint64{0, maxFour, 10<<24 | 5, 0x80000001, 0x12345678} {
		digits := fmt.Sprintf("4%032b", a)
		for _, hops := range []int{1, 2, 3, 33} {
			m := model{}
			for n := range 33 {
				m[digits[:1+n]] = 1 + n%hops
				checkFewest(t, m.routes(), m.least())
			}
		}
	}
}

func TestFewestOfTablesAtRandom(t *testing.T) {
	rnd := rand.New(rand.NewSource(67))
	saved := 0
	for range 150 {
		m := randomModel(rnd, "4", rnd.Intn(api.MaxRoutes), []int{2, 3, 5, api.MaxHop}[rnd.Intn(4)])
		m["4"] = 1 + rnd.Intn(3)
		l := m.routes()
		rnd.Shuffle(len(l), func(i, j int) { l[i], l[j] = l[j], l[i] })
		n := m.least()
		checkFewest(t, l, n)
		saved += len(l) - n
	}
	if saved < 500 {
		t.Errorf("the tables have only %d routes more than needed", saved)
	}
}

func TestFewestOfSizes(t *testing.T) {
	checkFewest(t, full(api.MaxRoutes), api.MaxRoutes)
	checkFewestError(t, full(api.MaxRoutes+1), api.ErrSize)
	// All but the whole are of one hop, and next to each other.
	l := []api.Route{{Hop: 1}}
	for i := range uint64(api.MaxRoutes - 1) {
		l = append(l, api.Route{Prefix: prefix(four(10<<24|i), 32), Hop: 2})
	}
	// 59 addresses: 32 + 16 + 8 + 2 + 1, or all 64 without 4 and 1.
	checkFewest(t, l, 4)
}

func TestFewestOfErrors(t *testing.T) {
	sixth := to(t, "2001:db8::/32", 1)
	for _, b := range badTables(t) {
		checkFewestError(t, b.l, b.e)
		// What is wrong with the table counts before the family, and before the route that is missing.
		if b.e != api.ErrSize {
			checkFewestError(t, slices.Concat(b.l, []api.Route{sixth}), b.e)
			checkFewestError(t, slices.Concat([]api.Route{sixth}, b.l), b.e)
			last := b.l[len(b.l)-1]
			checkFewestError(t, []api.Route{sixth, last, last}, b.e)
		}
	}
	checkFewestError(t, []api.Route{sixth, sixth}, api.ErrTwice)
	checkFewestError(t, routes(t, "::/0 1"), api.ErrFamily)
	checkFewestError(t, routes(t, "0.0.0.0/0 1", "::/0 1"), api.ErrFamily)
	checkFewestError(t, routes(t, "::/0 1", "0.0.0.0/0 1"), api.ErrFamily)
	// The family counts before the route that is missing, wherever it stands.
	checkFewestError(t, routes(t, "10.0.0.0/8 1", "::1/128 1"), api.ErrFamily)
	checkFewestError(t, routes(t, "::1/128 1", "10.0.0.0/8 1"), api.ErrFamily)
	checkFewestError(t, nil, api.ErrNone)
	checkFewestError(t, []api.Route{}, api.ErrNone)
	checkFewestError(t, routes(t, "0.0.0.0/32 1"), api.ErrNone)
	checkFewestError(t, routes(t, "10.0.0.0/8 1", "10.0.0.0/9 1"), api.ErrNone)
	// All addresses are routed, but not by that prefix.
	checkFewestError(t, routes(t, "0.0.0.0/1 1", "128.0.0.0/1 1"), api.ErrNone)
	checkFewestError(t, full(api.MaxRoutes)[1:], api.ErrNone)
}

// TestMemory has lists with spare capacity: neither they nor that may change, also not when results are changed.
func TestMemory(t *testing.T) {
	l, m := full(api.MaxRoutes), full(api.MaxRoutes)
	before := slices.Clone(l)
	checkBoth(t, l[:20], m[:30], false)
	checkBoth(t, l[:30], m[:30], true)
	got, _ := fewest.Fewest(l[:30])
	gotBefore := slices.Clone(got)
	again, _ := fewest.Fewest(l[:30])
	fill(got[:cap(got)], api.Route{Hop: 99})
	if !slices.Equal(l, before) || !slices.Equal(m, before) {
		t.Errorf("the tables have changed")
	}
	if !slices.Equal(again, gotBefore) {
		t.Errorf("results of two calls share memory, or differ")
	}
}

func fill[T any](l []T, v T) {
	for i := range l {
		l[i] = v
	}
}
