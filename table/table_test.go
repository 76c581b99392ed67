package table_test

import (
	"fmt"
	"maps"
	"math"
	"math/rand"
	"slices"
	"strings"
	"testing"

	"whipcord/addr"
	"whipcord/api"
	"whipcord/pre"
	"whipcord/table"
)

const maxFour = 1<<32 - 1

func four(lo uint64) api.Addr {
	return api.Addr{Lo: lo}
}

func six(hi, lo uint64) api.Addr {
	return api.Addr{Six: true, Hi: hi, Lo: lo}
}

func prefix(a api.Addr, n int) api.Prefix {
	return api.Prefix{Addr: a, Len: n}
}

// at and to read addresses and routes, so that the tests can name them as the document does.
func at(t *testing.T, text string) api.Addr {
	t.Helper()
	a, e := addr.Parse(text)
	if e != api.OK {
		t.Fatalf("Parse(%q): %v", text, e)
	}
	return a
}

func to(t *testing.T, text string, hop int) api.Route {
	t.Helper()
	p, e := pre.Parse(text)
	if e != api.OK {
		t.Fatalf("Parse(%q): %v", text, e)
	}
	return api.Route{Prefix: p, Hop: hop}
}

func put(r api.Route) api.Act {
	return api.Act{Kind: api.Put, Prefix: r.Prefix, Hop: r.Hop}
}

func cut(p api.Prefix) api.Act {
	return api.Act{Kind: api.Cut, Prefix: p}
}

func look(a api.Addr) api.Act {
	return api.Act{Kind: api.Look, Addr: a}
}

func get(p api.Prefix) api.Act {
	return api.Act{Kind: api.Get, Prefix: p}
}

// many lists n routes with different prefixes, of both families.
func many(n int) []api.Route {
	var l []api.Route
	for i := range n {
		r := api.Route{Prefix: prefix(four(uint64(i)), 32), Hop: i + 1}
		if i%3 == 0 {
			r.Prefix = prefix(six(0, uint64(i)<<32), 96)
		}
		l = append(l, r)
	}
	return l
}

func puts(l []api.Route) []api.Act {
	var acts []api.Act
	for _, r := range l {
		acts = append(acts, put(r))
	}
	return acts
}

// bad is a route that is not valid, with the error that it has.
type bad struct {
	r api.Route
	e api.Errno
}

func badPrefixes() []bad {
	return []bad{
		{api.Route{Prefix: prefix(four(maxFour+1), 8), Hop: 1}, api.ErrForm},
		{api.Route{Prefix: prefix(api.Addr{Hi: 1}, 0), Hop: 1}, api.ErrForm},
		{api.Route{Prefix: prefix(four(0), -1), Hop: 1}, api.ErrRange},
		{api.Route{Prefix: prefix(four(0), 33), Hop: 1}, api.ErrRange},
		{api.Route{Prefix: prefix(four(0), math.MaxInt), Hop: 1}, api.ErrRange},
		{api.Route{Prefix: prefix(six(0, 0), 129), Hop: 1}, api.ErrRange},
		{api.Route{Prefix: prefix(six(0, 0), math.MinInt), Hop: 1}, api.ErrRange},
		{api.Route{Prefix: prefix(four(1), 31), Hop: 1}, api.ErrBits},
		{api.Route{Prefix: prefix(six(1, 0), 63), Hop: 1}, api.ErrBits},
	}
}

func badHops() []int {
	return []int{0, -1, api.MaxHop + 1, math.MaxInt, math.MinInt}
}

// badRoutes has the errors of the prefixes before those of the hops.
func badRoutes() []bad {
	l := badPrefixes()
	for _, hop := range badHops() {
		for _, b := range badPrefixes() {
			b.r.Hop = hop
			l = append(l, b)
		}
		l = append(l, bad{api.Route{Prefix: prefix(four(0), 0), Hop: hop}, api.ErrRange})
		l = append(l, bad{api.Route{Prefix: prefix(six(1, 1), 128), Hop: hop}, api.ErrRange})
	}
	return l
}

func badAddrs() []api.Addr {
	return []api.Addr{four(maxFour + 1), four(math.MaxUint64), {Hi: 1}, {Hi: math.MaxUint64, Lo: 1}}
}

func checkCheck(t *testing.T, l []api.Route, want api.Errno) {
	t.Helper()
	if e := table.Check(l); e != want {
		t.Errorf("Check(%v): %v, want %v", l, e, want)
	}
}

func checkLook(t *testing.T, l []api.Route, a api.Addr, want api.Answer, wantE api.Errno) {
	t.Helper()
	if got, e := table.Look(l, a); got != want || e != wantE {
		t.Errorf("Look(%v, %v): %v %v, want %v %v", l, a, got, e, want, wantE)
	}
}

func checkPlay(t *testing.T, acts []api.Act, want []api.Answer, wantE api.Errno) {
	t.Helper()
	if got, e := table.Play(acts); !slices.Equal(got, want) || e != wantE {
		t.Errorf("Play(%v): %v %v, want %v %v", acts, got, e, want, wantE)
	}
}

func checkRoutes(t *testing.T, acts []api.Act, want []api.Route, wantE api.Errno) {
	t.Helper()
	if got, e := table.Routes(acts); !slices.Equal(got, want) || e != wantE {
		t.Errorf("Routes(%v): %v %v, want %v %v", acts, got, e, want, wantE)
	}
}

// model is a table by the texts of its prefixes: the number of the family, and the bits. The texts have the order of the prefixes.
type model map[string]api.Route

func bitsOf(a api.Addr) string {
	if a.Six {
		return fmt.Sprintf("6%064b%064b", a.Hi, a.Lo)
	}
	return fmt.Sprintf("4%032b", a.Lo)
}

func key(p api.Prefix) string {
	return bitsOf(p.Addr)[:1+p.Len]
}

// look tries the bits of a, then one fewer, down to the family alone.
func (m model) look(a api.Addr) api.Answer {
	for s := bitsOf(a); s != ""; s = s[:len(s)-1] {
		if r, ok := m[s]; ok {
			return api.Answer{Hop: r.Hop, Len: len(s) - 1}
		}
	}
	return api.Answer{}
}

func (m model) routes() []api.Route {
	var l []api.Route
	for _, s := range slices.Sorted(maps.Keys(m)) {
		l = append(l, m[s])
	}
	return l
}

// do is the answer to an act with a valid prefix, hop and address.
func (m model) do(act api.Act) api.Answer {
	if act.Kind == api.Look {
		return m.look(act.Addr)
	}
	s := key(act.Prefix)
	r, there := m[s]
	switch act.Kind {
	case api.Put:
		if !there && len(m) == api.MaxRoutes {
			return api.Answer{Code: api.ErrFull}
		}
		m[s] = api.Route{Prefix: act.Prefix, Hop: act.Hop}
		return api.Answer{Hop: r.Hop}
	case api.Cut:
		if !there {
			return api.Answer{Code: api.ErrNone}
		}
		delete(m, s)
		return api.Answer{Hop: r.Hop}
	case api.Get:
		if !there {
			return api.Answer{Code: api.ErrNone}
		}
		return api.Answer{Hop: r.Hop, Len: act.Prefix.Len}
	}
	return api.Answer{Code: api.ErrKind}
}

// near lists the prefix a/n, all prefixes that have up to two bits more, and the whole family.
func near(a api.Addr, n int) []api.Prefix {
	p := prefix(a, n)
	low, high, _ := pre.Halves(p)
	l := []api.Prefix{p, low, high, {Addr: api.Addr{Six: a.Six}}}
	for _, half := range []api.Prefix{low, high} {
		lower, upper, _ := pre.Halves(half)
		l = append(l, lower, upper)
	}
	return l
}

// places lists prefixes that cover each other or not, in places at the ends of both families and across the two words of an address.
func places() [][]api.Prefix {
	return [][]api.Prefix{
		near(four(10<<24), 8),
		near(four(maxFour-3), 30),
		near(six(0, 0), 96),
		near(six(5, 0), 64),
		near(six(4, 0), 62),
		near(six(math.MaxUint64, math.MaxUint64-3), 126),
		append(near(four(0), 1)[:4], near(six(0, 0), 1)[:4]...),
	}
}

// edges lists the first and the last address of each prefix and the ones beside them.
func edges(l []api.Prefix) []api.Addr {
	known := map[api.Addr]bool{}
	for _, p := range l {
		first, last, _ := pre.Span(p)
		for _, a := range []api.Addr{first, last} {
			known[a] = true
			for _, by := range []int{-1, 1} {
				if b, e := addr.Next(a, by); e == api.OK {
					known[b] = true
				}
			}
		}
	}
	return slices.SortedFunc(maps.Keys(known), func(a, b api.Addr) int { return strings.Compare(bitsOf(a), bitsOf(b)) })
}

// P4.1

func TestCheck(t *testing.T) {
	ten := to(t, "10.0.0.0/8", 1)
	checkCheck(t, nil, api.OK)
	checkCheck(t, []api.Route{}, api.OK)
	checkCheck(t, []api.Route{ten, to(t, "10.1.0.0/16", 2)}, api.OK)
	checkCheck(t, []api.Route{ten, ten}, api.ErrTwice)
	checkCheck(t, []api.Route{ten, to(t, "10.0.0.0/8", 2)}, api.ErrTwice)

	// Prefixes that differ in one thing only are not the same.
	checkCheck(t, []api.Route{
		to(t, "0.0.0.0/0", 1), to(t, "::/0", 1), to(t, "0.0.0.0/32", 1), to(t, "::/32", 1), to(t, "::/128", 1),
		to(t, "10.0.0.0/8", 1), to(t, "10.0.0.0/9", 1), to(t, "10.128.0.0/9", 1), to(t, "11.0.0.0/8", 1),
		to(t, "::a00:0/128", 1), to(t, "10.0.0.0/32", 1), to(t, "1::/64", 1), to(t, "1:0:0:1::/64", 1), to(t, "1::/65", 1),
	}, api.OK)
}

func TestCheckOfHops(t *testing.T) {
	for _, text := range []string{"0.0.0.0/0", "10.0.0.0/8", "::/0", "::1/128"} {
		for _, hop := range []int{1, 2, api.MaxHop - 1, api.MaxHop} {
			checkCheck(t, []api.Route{to(t, text, hop)}, api.OK)
		}
		for _, hop := range badHops() {
			checkCheck(t, []api.Route{to(t, text, hop)}, api.ErrRange)
		}
	}
	checkCheck(t, []api.Route{{}}, api.ErrRange)
}

func TestCheckOfBadRoutes(t *testing.T) {
	for _, b := range badRoutes() {
		for i := range 4 {
			checkCheck(t, slices.Insert(many(3), i, b.r), b.e)
		}
		checkCheck(t, []api.Route{b.r}, b.e)
		// Their own error counts before ErrTwice.
		checkCheck(t, []api.Route{b.r, b.r}, b.e)
	}
}

// TestCheckGoesInOrder has two errors in different routes, of which the one in the earlier route counts.
func TestCheckGoesInOrder(t *testing.T) {
	for _, b := range badRoutes() {
		for _, c := range badRoutes() {
			checkCheck(t, []api.Route{b.r, c.r}, b.e)
		}
		l := many(5)
		twice := l[1]
		twice.Hop = 9
		checkCheck(t, append(l, twice, b.r), api.ErrTwice)
		checkCheck(t, append(l, b.r, twice), b.e)
	}
	// A hop out of range counts before ErrTwice in the same route.
	for _, hop := range badHops() {
		checkCheck(t, []api.Route{to(t, "10.0.0.0/8", 1), to(t, "10.0.0.0/8", hop)}, api.ErrRange)
	}
}

func TestCheckFindsEveryPair(t *testing.T) {
	l := many(api.MaxRoutes)
	for i := range l {
		for j := range i {
			m := slices.Clone(l)
			m[i].Prefix = m[j].Prefix
			checkCheck(t, m, api.ErrTwice)
		}
	}
}

func TestCheckOfSizes(t *testing.T) {
	checkCheck(t, many(api.MaxRoutes-1), api.OK)
	checkCheck(t, many(api.MaxRoutes), api.OK)
	checkCheck(t, many(api.MaxRoutes+1), api.ErrSize)
	checkCheck(t, many(5*api.MaxRoutes), api.ErrSize)
	// The size counts before everything else.
	checkCheck(t, make([]api.Route, api.MaxRoutes+1), api.ErrSize)
	checkCheck(t, append(make([]api.Route, 1), many(api.MaxRoutes)...), api.ErrSize)
	checkCheck(t, append(many(api.MaxRoutes), many(1)...), api.ErrSize)
	checkCheck(t, append(many(api.MaxRoutes-1), many(1)...), api.ErrTwice)
	checkCheck(t, append(many(api.MaxRoutes-1), api.Route{}), api.ErrRange)
}

// Look, which the chapter describes beside P4.1

func TestLook(t *testing.T) {
	l := []api.Route{to(t, "10.0.0.0/8", 1), to(t, "10.1.0.0/16", 2)}
	for _, m := range [][]api.Route{l, {l[1], l[0]}} {
		checkLook(t, m, at(t, "10.1.2.3"), api.Answer{Hop: 2, Len: 16}, api.OK)
		checkLook(t, m, at(t, "10.2.3.4"), api.Answer{Hop: 1, Len: 8}, api.OK)
		checkLook(t, m, at(t, "11.0.0.0"), api.Answer{}, api.OK)
		checkLook(t, m, at(t, "9.255.255.255"), api.Answer{}, api.OK)
		checkLook(t, m, at(t, "10.1.255.255"), api.Answer{Hop: 2, Len: 16}, api.OK)
		checkLook(t, m, at(t, "::a01:203"), api.Answer{}, api.OK)
	}
	checkLook(t, l[:1], at(t, "10.1.1.1"), api.Answer{Hop: 1, Len: 8}, api.OK)
	checkLook(t, nil, at(t, "0.0.0.0"), api.Answer{}, api.OK)
	checkLook(t, []api.Route{}, at(t, "::"), api.Answer{}, api.OK)
}

// TestLookOfFamilies has routes for all addresses of a family, which say nothing of the other one.
func TestLookOfFamilies(t *testing.T) {
	r, s := to(t, "0.0.0.0/0", 4), to(t, "::/0", 6)
	fours := []string{"0.0.0.0", "10.0.0.1", "255.255.255.255"}
	sixes := []string{"::", "::ffff:ffff", "1::", "ffff:ffff:ffff:ffff:ffff:ffff:ffff:ffff"}
	for _, text := range fours {
		checkLook(t, []api.Route{r}, at(t, text), api.Answer{Hop: 4}, api.OK)
		checkLook(t, []api.Route{s}, at(t, text), api.Answer{}, api.OK)
		checkLook(t, []api.Route{s, r}, at(t, text), api.Answer{Hop: 4}, api.OK)
	}
	for _, text := range sixes {
		checkLook(t, []api.Route{r}, at(t, text), api.Answer{}, api.OK)
		checkLook(t, []api.Route{s}, at(t, text), api.Answer{Hop: 6}, api.OK)
		checkLook(t, []api.Route{r, s}, at(t, text), api.Answer{Hop: 6}, api.OK)
	}
}

// TestLookOfEveryLength has routes for the prefixes of one address: with 60 of them at a time, in either order.
func TestLookOfEveryLength(t *testing.T) {
	for _, a := range []api.Addr{four(0), four(maxFour), four(10<<24 | 5), six(0, 0), six(math.MaxUint64, math.MaxUint64), six(0x20010db8<<32, 7)} {
		bits := len(bitsOf(a)) - 1
		for most := range bits + 1 {
			var l []api.Route
			for n := most; n >= 0 && len(l) < api.MaxRoutes; n-- {
				l = append(l, api.Route{Prefix: head(a, n), Hop: n + 1})
			}
			checkLook(t, l, a, api.Answer{Hop: most + 1, Len: most}, api.OK)
			slices.Reverse(l)
			checkLook(t, l, a, api.Answer{Hop: most + 1, Len: most}, api.OK)
		}
	}
}

// head is the prefix of the first n bits of a, found by halving.
func head(a api.Addr, n int) api.Prefix {
	p := api.Prefix{Addr: api.Addr{Six: a.Six}}
	for p.Len < n {
		low, high, _ := pre.Halves(p)
		p = low
		if in, _ := pre.Has(high, a); in {
			p = high
		}
	}
	return p
}

// TestLookOfAllTables has every subset of the prefixes of each place.
func TestLookOfAllTables(t *testing.T) {
	for _, l := range places() {
		as := edges(l)
		for set := range 1 << len(l) {
			m := model{}
			var routes []api.Route
			for i, p := range l {
				if set>>i&1 == 1 {
					r := api.Route{Prefix: p, Hop: 100 + i}
					m[key(p)] = r
					routes = append(routes, r)
				}
			}
			for _, a := range as {
				checkLook(t, routes, a, m.look(a), api.OK)
			}
		}
	}
}

func TestLookOfErrors(t *testing.T) {
	good := many(3)
	for _, a := range badAddrs() {
		checkLook(t, nil, a, api.Answer{}, api.ErrForm)
		checkLook(t, good, a, api.Answer{}, api.ErrForm)
		checkLook(t, []api.Route{to(t, "0.0.0.0/0", 1), to(t, "::/0", 1)}, a, api.Answer{}, api.ErrForm)
	}
	// The table counts before the address.
	for _, a := range append(badAddrs(), four(0), six(0, 0)) {
		for _, b := range badRoutes() {
			checkLook(t, append(many(3), b.r), a, api.Answer{}, b.e)
		}
		checkLook(t, append(many(3), good[1]), a, api.Answer{}, api.ErrTwice)
		checkLook(t, many(api.MaxRoutes+1), a, api.Answer{}, api.ErrSize)
	}
	l := many(api.MaxRoutes)
	last := l[len(l)-1]
	checkLook(t, l, last.Prefix.Addr, api.Answer{Hop: last.Hop, Len: 32}, api.OK)
}

// P4.2

func TestPlay(t *testing.T) {
	ten, one := to(t, "10.0.0.0/8", 1), to(t, "10.1.0.0/16", 2)
	again := to(t, "10.0.0.0/8", 3)
	checkPlay(t, nil, nil, api.OK)
	checkPlay(t, []api.Act{}, nil, api.OK)
	checkPlay(t, []api.Act{
		put(ten), put(one), look(at(t, "10.1.2.3")), look(at(t, "10.2.3.4")), look(at(t, "11.0.0.0")),
		put(again), put(again), get(ten.Prefix), get(one.Prefix), look(at(t, "10.2.3.4")),
		cut(one.Prefix), look(at(t, "10.1.2.3")), get(one.Prefix), cut(one.Prefix), put(one), put(one),
		cut(ten.Prefix), look(at(t, "10.2.3.4")), look(at(t, "10.1.2.3")),
	}, []api.Answer{
		{}, {}, {Hop: 2, Len: 16}, {Hop: 1, Len: 8}, {},
		{Hop: 1}, {Hop: 3}, {Hop: 3, Len: 8}, {Hop: 2, Len: 16}, {Hop: 3, Len: 8},
		{Hop: 2}, {Hop: 3, Len: 8}, {Code: api.ErrNone}, {Code: api.ErrNone}, {}, {Hop: 2},
		{Hop: 3}, {}, {Hop: 2, Len: 16},
	}, api.OK)
}

// TestPlayOfExactPrefixes has prefixes above, below and beside the one of a route, and that of the other family.
func TestPlayOfExactPrefixes(t *testing.T) {
	r := to(t, "10.0.0.0/8", 7)
	none := api.Answer{Code: api.ErrNone}
	for _, text := range []string{"0.0.0.0/0", "10.0.0.0/7", "10.0.0.0/9", "10.128.0.0/9", "11.0.0.0/8", "10.0.0.0/32", "a00::/8", "::a00:0/128", "::/0"} {
		p := to(t, text, 1).Prefix
		checkPlay(t, []api.Act{put(r), get(p), cut(p), get(r.Prefix)}, []api.Answer{{}, none, none, {Hop: 7, Len: 8}}, api.OK)
	}
	for _, text := range []string{"0.0.0.0/0", "::/0", "0.0.0.0/32", "::/128"} {
		p := to(t, text, api.MaxHop)
		checkPlay(t, []api.Act{get(p.Prefix), cut(p.Prefix), put(p), get(p.Prefix), cut(p.Prefix), cut(p.Prefix)},
			[]api.Answer{none, none, {}, {Hop: api.MaxHop, Len: p.Prefix.Len}, {Hop: api.MaxHop}, none}, api.OK)
	}
}

func TestPlayOfBadActs(t *testing.T) {
	r := to(t, "10.0.0.0/8", 1)
	var acts []api.Act
	var codes []api.Errno
	for _, b := range badRoutes() {
		acts = append(acts, put(b.r))
		codes = append(codes, b.e)
	}
	for _, b := range badPrefixes() {
		acts = append(acts, cut(b.r.Prefix), get(b.r.Prefix))
		codes = append(codes, b.e, b.e)
	}
	for _, a := range badAddrs() {
		acts = append(acts, look(a))
		codes = append(codes, api.ErrForm)
	}
	for _, hop := range badHops() {
		// The route is there, and keeps its hop.
		acts = append(acts, put(api.Route{Prefix: r.Prefix, Hop: hop}))
		codes = append(codes, api.ErrRange)
	}
	for _, kind := range []int{0, -1, 5, 6, math.MaxInt, math.MinInt} {
		for _, b := range append(badPrefixes(), bad{r: r}) {
			// The kind is all that counts then.
			acts = append(acts, api.Act{Kind: kind, Prefix: b.r.Prefix, Hop: 2, Addr: four(maxFour + 1)})
			codes = append(codes, api.ErrKind)
		}
	}
	for i, act := range acts {
		code := api.Answer{Code: codes[i]}
		checkPlay(t, []api.Act{act, put(r), act, get(r.Prefix), look(r.Prefix.Addr)},
			[]api.Answer{code, {}, code, {Hop: 1, Len: 8}, {Hop: 1, Len: 8}}, api.OK)
		checkRoutes(t, []api.Act{act, put(r), act}, []api.Route{r}, api.OK)
	}
}

// TestPlayIgnoresOtherFields fills the fields that a kind of act does not name with what is not valid.
func TestPlayIgnoresOtherFields(t *testing.T) {
	r := to(t, "10.0.0.0/8", 1)
	noPrefix, noAddr := prefix(four(1), -1), four(maxFour+1)
	checkPlay(t, []api.Act{
		{Kind: api.Put, Prefix: r.Prefix, Hop: r.Hop, Addr: noAddr},
		{Kind: api.Get, Prefix: r.Prefix, Hop: -1, Addr: noAddr},
		{Kind: api.Look, Prefix: noPrefix, Hop: -1, Addr: r.Prefix.Addr},
		{Kind: api.Cut, Prefix: r.Prefix, Hop: -1, Addr: noAddr},
	}, []api.Answer{{}, {Hop: 1, Len: 8}, {Hop: 1, Len: 8}, {Hop: 1}}, api.OK)
}

func TestPlayOfFullTable(t *testing.T) {
	l := many(api.MaxRoutes + 2)
	for i := range l {
		l[i].Hop = 1 + i
	}
	first, more, most := l[0], l[api.MaxRoutes], l[api.MaxRoutes+1]
	acts := puts(l[:api.MaxRoutes])
	want := make([]api.Answer, len(acts))
	full, none := api.Answer{Code: api.ErrFull}, api.Answer{Code: api.ErrNone}
	add := func(act api.Act, answer api.Answer) {
		acts, want = append(acts, act), append(want, answer)
	}
	add(put(more), full)
	add(get(more.Prefix), none)
	add(put(first), api.Answer{Hop: first.Hop})
	add(put(api.Route{Prefix: first.Prefix, Hop: 500}), api.Answer{Hop: first.Hop})
	// What is wrong with the route itself counts before the room for it.
	add(put(api.Route{Prefix: more.Prefix, Hop: 0}), api.Answer{Code: api.ErrRange})
	add(put(api.Route{Prefix: prefix(four(1), 31), Hop: 1}), api.Answer{Code: api.ErrBits})
	add(cut(more.Prefix), none)
	add(put(more), full)
	add(cut(first.Prefix), api.Answer{Hop: 500})
	add(put(more), api.Answer{})
	add(put(most), full)
	add(put(first), full)
	add(get(more.Prefix), api.Answer{Hop: more.Hop, Len: more.Prefix.Len})
	checkPlay(t, acts, want, api.OK)

	m := model{}
	for _, r := range l[1 : api.MaxRoutes+1] {
		m[key(r.Prefix)] = r
	}
	checkRoutes(t, acts, m.routes(), api.OK)
}

func TestSizes(t *testing.T) {
	for _, act := range []api.Act{{}, get(prefix(four(0), 0)), put(to(t, "::/0", 5)), look(four(maxFour + 1)), {Kind: -1}} {
		acts := slices.Repeat([]api.Act{act}, api.MaxActs+1)
		checkPlay(t, acts, nil, api.ErrSize)
		checkRoutes(t, acts, nil, api.ErrSize)
		for _, n := range []int{1, api.MaxActs - 1, api.MaxActs} {
			if answers, e := table.Play(acts[:n]); len(answers) != n || e != api.OK {
				t.Errorf("Play of %d acts: %d answers, %v", n, len(answers), e)
			}
			if _, e := table.Routes(acts[:n]); e != api.OK {
				t.Errorf("Routes of %d acts: %v", n, e)
			}
		}
	}
	checkPlay(t, make([]api.Act, 10*api.MaxActs), nil, api.ErrSize)
	checkRoutes(t, make([]api.Act, 10*api.MaxActs), nil, api.ErrSize)
}

// TestOfModel has many acts on few prefixes, so that routes come, change and go, and acts on so many that the table gets full.
func TestOfModel(t *testing.T) {
	rnd := rand.New(rand.NewSource(4))
	var all []api.Prefix
	for _, l := range places() {
		checkModel(t, rnd, l, []int{api.Put, api.Put, api.Cut, api.Look, api.Look, api.Get, 7})
		all = append(all, l...)
	}
	for _, r := range many(60) {
		all = append(all, r.Prefix)
	}
	checkModel(t, rnd, all, append(slices.Repeat([]int{api.Put}, 12), api.Cut, api.Look, api.Get))
}

func checkModel(t *testing.T, rnd *rand.Rand, l []api.Prefix, kinds []int) {
	t.Helper()
	as := edges(l)
	for range 300 {
		m := model{}
		var acts []api.Act
		var want []api.Answer
		for range rnd.Intn(api.MaxActs + 1) {
			act := api.Act{Kind: kinds[rnd.Intn(len(kinds))], Prefix: l[rnd.Intn(len(l))], Hop: 1 + rnd.Intn(api.MaxHop), Addr: as[rnd.Intn(len(as))]}
			acts = append(acts, act)
			want = append(want, m.do(act))
		}
		checkPlay(t, acts, want, api.OK)
		checkRoutes(t, acts, m.routes(), api.OK)
	}
}

// P4.3

// sorted lists routes in the order of chapter 3.
func sorted(t *testing.T) []api.Route {
	t.Helper()
	var l []api.Route
	for i, text := range []string{
		"0.0.0.0/0", "0.0.0.0/1", "0.0.0.0/32", "0.0.0.1/32", "9.0.0.0/8", "10.0.0.0/7", "10.0.0.0/8", "10.0.0.0/9", "10.0.0.0/32",
		"10.64.0.0/10", "10.128.0.0/9", "128.0.0.0/1", "255.255.255.255/32",
		"::/0", "::/1", "::/64", "::/128", "::1/128", "::a00:0/104", "::1:0:0:0/80", "::8000:0:0:0/65", "0:0:0:1::/64", "0:0:0:1::/65", "::1:0:0:0:1/128",
		"1::/16", "8000::/1", "ffff:ffff:ffff:ffff::/64", "ffff:ffff:ffff:ffff:ffff:ffff:ffff:ffff/128",
	} {
		l = append(l, to(t, text, 50-i))
	}
	return l
}

func TestRoutes(t *testing.T) {
	want := sorted(t)
	acts := puts(want)
	checkRoutes(t, nil, nil, api.OK)
	checkRoutes(t, []api.Act{}, nil, api.OK)
	checkRoutes(t, acts, want, api.OK)
	slices.Reverse(acts)
	checkRoutes(t, acts, want, api.OK)
	rnd := rand.New(rand.NewSource(43))
	for range 100 {
		rnd.Shuffle(len(acts), func(i, j int) { acts[i], acts[j] = acts[j], acts[i] })
		checkRoutes(t, acts, want, api.OK)
	}
	// Any two of them stand in this order too.
	for i := range want {
		for j := range i {
			checkRoutes(t, puts([]api.Route{want[i], want[j]}), []api.Route{want[j], want[i]}, api.OK)
		}
	}
}

func TestRoutesAfterChanges(t *testing.T) {
	ten, one := to(t, "10.0.0.0/8", 1), to(t, "10.1.0.0/16", 2)
	again := to(t, "10.0.0.0/8", 3)
	checkRoutes(t, []api.Act{put(one), put(ten), put(again)}, []api.Route{again, one}, api.OK)
	checkRoutes(t, []api.Act{put(one), put(ten), cut(one.Prefix)}, []api.Route{ten}, api.OK)
	checkRoutes(t, []api.Act{put(ten), cut(ten.Prefix)}, nil, api.OK)
	checkRoutes(t, []api.Act{put(ten), cut(ten.Prefix), put(again)}, []api.Route{again}, api.OK)
	checkRoutes(t, []api.Act{look(four(0)), get(ten.Prefix), cut(ten.Prefix), {Kind: 9}}, nil, api.OK)
}

// TestMemory has lists with spare capacity: neither they nor that may change, also not when results are changed.
func TestMemory(t *testing.T) {
	routes := sorted(t)
	slices.Reverse(routes)
	acts := puts(routes)
	acts = append(acts, cut(routes[3].Prefix), look(four(10<<24)), get(routes[5].Prefix))
	routesBefore, actsBefore := slices.Clone(routes), slices.Clone(acts)

	table.Check(routes[:20])
	table.Look(routes[:20], four(10<<24))
	answers, _ := table.Play(acts[:25])
	left, _ := table.Routes(acts[:25])
	answersBefore, leftBefore := slices.Clone(answers), slices.Clone(left)
	answersAgain, _ := table.Play(acts[:25])
	leftAgain, _ := table.Routes(acts[:25])
	fill(answers[:cap(answers)], api.Answer{Code: 99})
	fill(left[:cap(left)], api.Route{Hop: 99})

	if !slices.Equal(routes, routesBefore) || !slices.Equal(acts, actsBefore) {
		t.Errorf("arguments have changed")
	}
	if !slices.Equal(answersAgain, answersBefore) || !slices.Equal(leftAgain, leftBefore) {
		t.Errorf("results of two calls share memory")
	}
	checkPlay(t, acts[:25], answersBefore, api.OK)
	checkRoutes(t, acts[:25], leftBefore, api.OK)
}

func fill[T any](l []T, v T) {
	for i := range l {
		l[i] = v
	}
}
