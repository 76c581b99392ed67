package delta_test

import (
	"fmt"
	"maps"
	"math"
	"math/rand"
	"slices"
	"strconv"
	"strings"
	"testing"

	"whipcord/api"
	"whipcord/delta"
	"whipcord/pre"
	"whipcord/table"
)

const maxFour = 1<<32 - 1

// mostActs is the size of the longest list of acts that Apply takes.
const mostActs = 2 * api.MaxRoutes

func four(lo uint64) api.Addr {
	return api.Addr{Lo: lo}
}

func six(hi, lo uint64) api.Addr {
	return api.Addr{Six: true, Hi: hi, Lo: lo}
}

func prefix(a api.Addr, n int) api.Prefix {
	return api.Prefix{Addr: a, Len: n}
}

// at reads a prefix, so that the tests can name it as the document does.
func at(t *testing.T, text string) api.Prefix {
	t.Helper()
	p, e := pre.Parse(text)
	if e != api.OK {
		t.Fatalf("Parse(%q): %v", text, e)
	}
	return p
}

// routes reads a table: texts of prefixes, each one with a blank and its hop.
func routes(t *testing.T, texts ...string) []api.Route {
	t.Helper()
	var l []api.Route
	for _, text := range texts {
		p, hop, _ := strings.Cut(text, " ")
		n, err := strconv.Atoi(hop)
		if err != nil {
			t.Fatal(err)
		}
		l = append(l, api.Route{Prefix: at(t, p), Hop: n})
	}
	return l
}

// acts reads texts of acts: "+" with a route for a Put, "-" with a prefix for a Cut.
func acts(t *testing.T, texts ...string) []api.Act {
	t.Helper()
	var l []api.Act
	for _, text := range texts {
		if text[0] == '-' {
			l = append(l, cut(at(t, text[1:])))
		} else {
			l = append(l, put(routes(t, text[1:])[0]))
		}
	}
	return l
}

func put(r api.Route) api.Act {
	return api.Act{Kind: api.Put, Prefix: r.Prefix, Hop: r.Hop}
}

func cut(p api.Prefix) api.Act {
	return api.Act{Kind: api.Cut, Prefix: p}
}

// many lists n routes with different prefixes of both families, from the number first on, in no order.
func many(first, n int) []api.Route {
	var l []api.Route
	for i := first; i < first+n; i++ {
		r := api.Route{Prefix: prefix(four(uint64(i*37%1000)), 32), Hop: i + 1}
		if i%3 == 0 {
			r.Prefix = prefix(six(0, uint64(i*37%1000)<<32), 96)
		}
		l = append(l, r)
	}
	return l
}

// model is a table by the texts of its prefixes: the number of the family, and the bits. The texts have the order of the prefixes.
type model map[string]api.Route

func key(p api.Prefix) string {
	if p.Addr.Six {
		return fmt.Sprintf("6%064b%064b", p.Addr.Hi, p.Addr.Lo)[:1+p.Len]
	}
	return fmt.Sprintf("4%032b", p.Addr.Lo)[:1+p.Len]
}

func modelOf(l []api.Route) model {
	m := model{}
	for _, r := range l {
		m[key(r.Prefix)] = r
	}
	return m
}

func (m model) routes() []api.Route {
	var l []api.Route
	for _, s := range slices.Sorted(maps.Keys(m)) {
		l = append(l, m[s])
	}
	return l
}

// diff goes through the prefixes that either table has.
func (m model) diff(to model) []api.Act {
	either := maps.Clone(m)
	maps.Copy(either, to)
	var cuts, puts []api.Act
	for _, s := range slices.Sorted(maps.Keys(either)) {
		old, was := m[s]
		r, is := to[s]
		switch {
		case !is:
			cuts = append(cuts, cut(old.Prefix))
		case !was || old.Hop != r.Hop:
			puts = append(puts, put(r))
		}
	}
	return slices.Concat(cuts, puts)
}

// do executes acts with valid prefixes and hops, up to the first one that has an error.
func (m model) do(acts []api.Act) api.Errno {
	for _, act := range acts {
		s := key(act.Prefix)
		_, there := m[s]
		switch {
		case act.Kind == api.Cut && !there:
			return api.ErrNone
		case act.Kind == api.Cut:
			delete(m, s)
		case !there && len(m) == api.MaxRoutes:
			return api.ErrFull
		default:
			m[s] = api.Route{Prefix: act.Prefix, Hop: act.Hop}
		}
	}
	return api.OK
}

func checkDiff(t *testing.T, l, m []api.Route, want []api.Act, wantE api.Errno) {
	t.Helper()
	if got, e := delta.Diff(l, m); !slices.Equal(got, want) || e != wantE {
		t.Errorf("Diff(%v, %v): %v %v, want %v %v", l, m, got, e, want, wantE)
	}
}

func checkApply(t *testing.T, l []api.Route, acts []api.Act, want []api.Route, wantE api.Errno) {
	t.Helper()
	if got, e := delta.Apply(l, acts); !slices.Equal(got, want) || e != wantE {
		t.Errorf("Apply(%v, %v): %v %v, want %v %v", l, acts, got, e, want, wantE)
	}
}

// checkBoth checks the acts from l to m, and that they lead there.
func checkBoth(t *testing.T, l, m []api.Route) {
	t.Helper()
	want := modelOf(l).diff(modelOf(m))
	checkDiff(t, l, m, want, api.OK)
	checkApply(t, l, want, modelOf(m).routes(), api.OK)
}

// bad is a route that is not valid, with the error that it has.
type bad struct {
	r api.Route
	e api.Errno
}

func badPrefixes() []bad {
	return []bad{
		{api.Route{Prefix: prefix(four(maxFour+1), 8), Hop: 1}, api.ErrForm},
		{api.Route{Prefix: prefix(api.Addr{Hi: 1}, 0), Hop: 1}, api.ErrForm},
		{api.Route{Prefix: prefix(four(0), -1), Hop: 1}, api.ErrRange},
		{api.Route{Prefix: prefix(four(0), 33), Hop: 1}, api.ErrRange},
		{api.Route{Prefix: prefix(six(0, 0), 129), Hop: 1}, api.ErrRange},
		{api.Route{Prefix: prefix(four(0), math.MinInt), Hop: 1}, api.ErrRange},
		{api.Route{Prefix: prefix(four(0), math.MaxInt), Hop: 1}, api.ErrRange},
		{api.Route{Prefix: prefix(four(1), 31), Hop: 1}, api.ErrBits},
		{api.Route{Prefix: prefix(six(1, 0), 63), Hop: 1}, api.ErrBits},
	}
}

// badRoutes has the errors of the prefixes before those of the hops.
func badRoutes() []bad {
	l := badPrefixes()
	for _, hop := range []int{0, -1, api.MaxHop + 1, math.MaxInt, math.MinInt} {
		l = append(l, bad{api.Route{Prefix: prefix(four(0), 0), Hop: hop}, api.ErrRange})
		l = append(l, bad{api.Route{Prefix: prefix(four(1), 31), Hop: hop}, api.ErrBits})
	}
	return l
}

// badTable is a table that is not valid, with the error that it has.
type badTable struct {
	l []api.Route
	e api.Errno
}

func badTables() []badTable {
	out := []badTable{
		{many(0, api.MaxRoutes+1), api.ErrSize},
		{make([]api.Route, api.MaxRoutes+1), api.ErrSize},
		{append(many(0, 3), many(1, 1)...), api.ErrTwice},
		{[]api.Route{{Hop: 1}, {Hop: 2}}, api.ErrTwice},
	}
	for _, b := range badRoutes() {
		out = append(out, badTable{[]api.Route{b.r}, b.e}, badTable{append(many(0, 3), b.r), b.e})
	}
	return out
}

// ordered lists texts of prefixes in the order of chapter 3.
func ordered() []string {
	return []string{
		"0.0.0.0/0", "0.0.0.0/1", "0.0.0.0/32", "0.0.0.1/32", "9.0.0.0/8", "10.0.0.0/7", "10.0.0.0/8", "10.0.0.0/9", "10.0.0.0/32",
		"10.64.0.0/10", "10.128.0.0/9", "128.0.0.0/1", "255.255.255.255/32",
		"::/0", "::/1", "::/64", "::/128", "::1/128", "::a00:0/104", "::1:0:0:0/80", "::8000:0:0:0/65", "0:0:0:1::/64", "0:0:0:1::/65",
		"1::/16", "8000::/1", "ffff:ffff:ffff:ffff::/64", "ffff:ffff:ffff:ffff:ffff:ffff:ffff:ffff/128",
	}
}

// inOrder is the table of those prefixes.
func inOrder(t *testing.T) []api.Route {
	t.Helper()
	var l []api.Route
	for i, text := range ordered() {
		l = append(l, api.Route{Prefix: at(t, text), Hop: 50 - i})
	}
	return l
}

// P7.1

func TestDiffOfItself(t *testing.T) {
	rnd := rand.New(rand.NewSource(71))
	for _, l := range [][]api.Route{nil, {}, {{Hop: 1}}, inOrder(t), many(0, api.MaxRoutes)} {
		m := slices.Clone(l)
		for range 20 {
			checkDiff(t, l, m, nil, api.OK)
			checkDiff(t, m, l, nil, api.OK)
			rnd.Shuffle(len(m), func(i, j int) { m[i], m[j] = m[j], m[i] })
		}
	}
	checkDiff(t, nil, []api.Route{}, nil, api.OK)
	checkDiff(t, []api.Route{}, nil, nil, api.OK)
}

func TestDiff(t *testing.T) {
	cases := []struct {
		l, m, acts []string
	}{
		{nil, []string{"10.0.0.0/8 1"}, []string{"+10.0.0.0/8 1"}},
		{[]string{"10.0.0.0/8 1"}, nil, []string{"-10.0.0.0/8"}},
		// Another hop needs no cut.
		{[]string{"10.0.0.0/8 1"}, []string{"10.0.0.0/8 2"}, []string{"+10.0.0.0/8 2"}},
		{[]string{"::/0 999"}, []string{"::/0 1"}, []string{"+::/0 1"}},
		{[]string{"::/0 1"}, []string{"::/0 999"}, []string{"+::/0 999"}},
		// What is in both stays, wherever it stands.
		{[]string{"10.0.0.0/8 1", "11.0.0.0/8 2"}, []string{"12.0.0.0/8 3", "10.0.0.0/8 1"}, []string{"-11.0.0.0/8", "+12.0.0.0/8 3"}},
		// Hops that have changed places.
		{[]string{"10.0.0.0/8 1", "11.0.0.0/8 2"}, []string{"10.0.0.0/8 2", "11.0.0.0/8 1"}, []string{"+10.0.0.0/8 2", "+11.0.0.0/8 1"}},
		// Cuts come before puts, also where their prefixes are behind those of the puts.
		{[]string{"12.0.0.0/8 1", "::/0 1"}, []string{"10.0.0.0/8 1", "13.0.0.0/8 1"}, []string{"-12.0.0.0/8", "-::/0", "+10.0.0.0/8 1", "+13.0.0.0/8 1"}},
		{[]string{"::1/128 4", "10.0.0.0/8 1", "12.0.0.0/8 1"}, []string{"::1/128 5", "9.0.0.0/8 1", "12.0.0.0/8 2"}, []string{"-10.0.0.0/8", "+9.0.0.0/8 1", "+12.0.0.0/8 2", "+::1/128 5"}},
		// The same addresses, of another length or of the other family, are other prefixes.
		{[]string{"10.0.0.0/8 1"}, []string{"10.0.0.0/9 1"}, []string{"-10.0.0.0/8", "+10.0.0.0/9 1"}},
		{[]string{"0.0.0.0/0 1"}, []string{"::/0 1"}, []string{"-0.0.0.0/0", "+::/0 1"}},
		{[]string{"::1/128 1"}, []string{"0.0.0.1/32 1"}, []string{"-::1/128", "+0.0.0.1/32 1"}},
		{[]string{"1::/64 1"}, []string{"::/64 1"}, []string{"-1::/64", "+::/64 1"}},
		// The tables are to be the same ones, not only equivalent.
		{[]string{"10.0.0.0/8 1"}, []string{"10.0.0.0/9 1", "10.128.0.0/9 1"}, []string{"-10.0.0.0/8", "+10.0.0.0/9 1", "+10.128.0.0/9 1"}},
		{[]string{"10.0.0.0/8 1", "10.1.0.0/16 1"}, []string{"10.0.0.0/8 1"}, []string{"-10.1.0.0/16"}},
		{[]string{"10.0.0.0/8 1"}, []string{"10.1.0.0/16 1", "10.0.0.0/8 1"}, []string{"+10.1.0.0/16 1"}},
	}
	for _, c := range cases {
		l, m := routes(t, c.l...), routes(t, c.m...)
		checkDiff(t, l, m, acts(t, c.acts...), api.OK)
		checkBoth(t, l, m)
		checkBoth(t, m, l)
	}
}

// TestDiffInOrder has cuts and puts of prefixes in the order of chapter 3, from tables in any order.
func TestDiffInOrder(t *testing.T) {
	l := inOrder(t)
	var cuts, puts, changes []api.Act
	m := slices.Clone(l)
	for i, r := range l {
		cuts, puts = append(cuts, cut(r.Prefix)), append(puts, put(r))
		m[i].Hop += 100
		changes = append(changes, put(m[i]))
	}
	rnd := rand.New(rand.NewSource(72))
	for range 50 {
		rnd.Shuffle(len(l), func(i, j int) { l[i], l[j] = l[j], l[i] })
		rnd.Shuffle(len(m), func(i, j int) { m[i], m[j] = m[j], m[i] })
		checkDiff(t, nil, l, puts, api.OK)
		checkDiff(t, l, nil, cuts, api.OK)
		checkDiff(t, l, m, changes, api.OK)
		checkBoth(t, l[:15], m[10:])
	}
}

// TestDiffOfAllTables has every pair of tables of some prefixes with two hops.
func TestDiffOfAllTables(t *testing.T) {
	for _, texts := range [][]string{
		{"0.0.0.0/0", "::/0", "0.0.0.0/32", "::/32"},
		{"10.0.0.0/8", "10.0.0.0/9", "10.128.0.0/9", "11.0.0.0/8"},
	} {
		tables := [][]api.Route{nil}
		for _, text := range texts {
			for _, l := range tables {
				for hop := range 2 {
					r := api.Route{Prefix: at(t, text), Hop: 1 + hop}
					tables = append(tables, slices.Insert(slices.Clone(l), len(l)/2, r))
				}
			}
		}
		if len(tables) != 81 {
			t.Fatalf("%d tables of four prefixes", len(tables))
		}
		for _, l := range tables {
			for _, m := range tables {
				checkBoth(t, l, m)
			}
		}
	}
}

// TestDiffOfSizes has tables with nothing in common, for which there are more acts than table.Play takes.
func TestDiffOfSizes(t *testing.T) {
	all := many(0, 2*api.MaxRoutes)
	l, m := all[:api.MaxRoutes], all[api.MaxRoutes:]
	checkBoth(t, l, m)
	checkBoth(t, m, l)
	if got, _ := delta.Diff(l, m); len(got) != mostActs {
		t.Errorf("%d acts, want %d", len(got), mostActs)
	}
	for n := range api.MaxRoutes {
		checkBoth(t, l, all[n:n+api.MaxRoutes])
		checkBoth(t, l, l[n:])
		checkBoth(t, l[n:], m[:n])
	}
}

func TestDiffOfTablesAtRandom(t *testing.T) {
	rnd := rand.New(rand.NewSource(73))
	for range 500 {
		checkBoth(t, randomTable(rnd), randomTable(rnd))
	}
}

// randomTable has prefixes of which another such table has some too, with the same hop or with another one.
func randomTable(rnd *rand.Rand) []api.Route {
	l := many(0, 2*api.MaxRoutes)
	rnd.Shuffle(len(l), func(i, j int) { l[i], l[j] = l[j], l[i] })
	l = l[:rnd.Intn(api.MaxRoutes+1)]
	for i := range l {
		if rnd.Intn(3) == 0 {
			l[i].Hop = 1 + rnd.Intn(api.MaxHop)
		}
	}
	return l
}

func TestDiffOfErrors(t *testing.T) {
	bads := badTables()
	for _, b := range bads {
		for _, l := range [][]api.Route{nil, many(0, 3), many(0, api.MaxRoutes)} {
			checkDiff(t, b.l, l, nil, b.e)
			checkDiff(t, l, b.l, nil, b.e)
		}
		// The first table counts before the second one, whatever is wrong with it.
		for _, c := range bads {
			checkDiff(t, b.l, c.l, nil, b.e)
		}
	}
}

// P7.2

func TestExample(t *testing.T) {
	l := routes(t, "10.0.0.0/8 1", "0.0.0.0/0 1")
	m := routes(t, "0.0.0.0/0 2", "9.0.0.0/8 3")
	d := acts(t, "-10.0.0.0/8", "+0.0.0.0/0 2", "+9.0.0.0/8 3")
	checkDiff(t, l, m, d, api.OK)
	checkApply(t, l, d, m, api.OK)
	// The cut is of a prefix that is not there any more.
	checkApply(t, m, d, nil, api.ErrNone)
}

func TestApply(t *testing.T) {
	cases := []struct {
		l, acts, want []string
		e             api.Errno
	}{
		{nil, nil, nil, api.OK},
		{nil, []string{"+10.0.0.0/8 1"}, []string{"10.0.0.0/8 1"}, api.OK},
		{[]string{"10.0.0.0/8 1"}, []string{"-10.0.0.0/8"}, nil, api.OK},
		{[]string{"10.0.0.0/8 1"}, []string{"+10.0.0.0/8 2"}, []string{"10.0.0.0/8 2"}, api.OK},
		{[]string{"::/0 1", "10.0.0.0/8 2"}, []string{"+0.0.0.0/0 3"}, []string{"0.0.0.0/0 3", "10.0.0.0/8 2", "::/0 1"}, api.OK},
		// The list need not be the smallest one, nor have the cuts first.
		{nil, []string{"+10.0.0.0/8 1", "+10.0.0.0/8 2", "+10.0.0.0/8 2"}, []string{"10.0.0.0/8 2"}, api.OK},
		{nil, []string{"+10.0.0.0/8 1", "-10.0.0.0/8", "+10.0.0.0/8 3"}, []string{"10.0.0.0/8 3"}, api.OK},
		{nil, []string{"+10.0.0.0/8 1", "+::/0 2", "-10.0.0.0/8"}, []string{"::/0 2"}, api.OK},
		{[]string{"10.0.0.0/8 1"}, []string{"-10.0.0.0/8", "+10.0.0.0/8 1"}, []string{"10.0.0.0/8 1"}, api.OK},
		{[]string{"10.0.0.0/8 1"}, []string{"+10.0.0.0/8 1"}, []string{"10.0.0.0/8 1"}, api.OK},
		// There is no such route to cut, or not any more, or not yet.
		{nil, []string{"-0.0.0.0/0"}, nil, api.ErrNone},
		{[]string{"10.0.0.0/8 1"}, []string{"-10.0.0.0/9"}, nil, api.ErrNone},
		{[]string{"10.0.0.0/8 1"}, []string{"-10.0.0.0/7"}, nil, api.ErrNone},
		{[]string{"0.0.0.0/0 1"}, []string{"-::/0"}, nil, api.ErrNone},
		{[]string{"10.0.0.0/8 1"}, []string{"-10.0.0.0/8", "-10.0.0.0/8"}, nil, api.ErrNone},
		{[]string{"10.0.0.0/8 1"}, []string{"-11.0.0.0/8", "+11.0.0.0/8 1"}, nil, api.ErrNone},
		{[]string{"10.0.0.0/8 1"}, []string{"+11.0.0.0/8 1", "-11.0.0.0/8"}, []string{"10.0.0.0/8 1"}, api.OK},
	}
	for _, c := range cases {
		checkApply(t, routes(t, c.l...), acts(t, c.acts...), routes(t, c.want...), c.e)
	}
	checkApply(t, []api.Route{}, []api.Act{}, nil, api.OK)
}

// TestApplyInOrder has routes that come in any order, in the table or by the acts.
func TestApplyInOrder(t *testing.T) {
	want := inOrder(t)
	l := slices.Clone(want)
	rnd := rand.New(rand.NewSource(74))
	for range 50 {
		checkApply(t, l, nil, want, api.OK)
		checkApply(t, l, []api.Act{}, want, api.OK)
		var puts []api.Act
		for i, r := range l {
			puts = append(puts, put(r))
			checkApply(t, l[i+1:], puts, want, api.OK)
		}
		rnd.Shuffle(len(l), func(i, j int) { l[i], l[j] = l[j], l[i] })
	}
}

// TestApplyOfOtherFields fills the fields that a kind of act does not use with what is not valid.
func TestApplyOfOtherFields(t *testing.T) {
	r := routes(t, "10.0.0.0/8 1")[0]
	noAddr := four(maxFour + 1)
	wild := []api.Act{
		{Kind: api.Cut, Prefix: r.Prefix, Hop: -1, Addr: noAddr},
		{Kind: api.Put, Prefix: r.Prefix, Hop: 2, Addr: noAddr},
		{Kind: api.Cut, Prefix: r.Prefix, Hop: math.MaxInt, Addr: r.Prefix.Addr},
		{Kind: api.Put, Prefix: r.Prefix, Hop: 3, Addr: six(1, 2)},
	}
	checkApply(t, []api.Route{r}, wild, routes(t, "10.0.0.0/8 3"), api.OK)
	checkApply(t, []api.Route{r}, wild[:3], nil, api.OK)
}

// badAct is an act that has an error wherever it stands.
type badAct struct {
	act api.Act
	e   api.Errno
}

func badActs() []badAct {
	var l []badAct
	for _, b := range badRoutes() {
		l = append(l, badAct{put(b.r), b.e})
	}
	for _, b := range badPrefixes() {
		l = append(l, badAct{cut(b.r.Prefix), b.e})
	}
	l = append(l, badAct{cut(prefix(six(1, 1), 128)), api.ErrNone})
	// The kind is all that counts then, whatever the act would come to.
	there := many(0, 1)[0].Prefix
	for _, kind := range []int{api.Look, api.Get, 0, -1, 5, 6, math.MaxInt, math.MinInt} {
		for _, p := range []api.Prefix{there, prefix(six(1, 1), 128), prefix(four(1), 31)} {
			l = append(l, badAct{api.Act{Kind: kind, Prefix: p, Hop: 1}, api.ErrKind})
			l = append(l, badAct{api.Act{Kind: kind, Prefix: p, Addr: four(maxFour + 1)}, api.ErrKind})
		}
	}
	return append(l, badAct{api.Act{}, api.ErrKind})
}

func TestApplyOfBadActs(t *testing.T) {
	l := many(0, 3)
	good := put(l[1])
	for _, b := range badActs() {
		checkApply(t, nil, []api.Act{b.act}, nil, b.e)
		checkApply(t, l, []api.Act{b.act}, nil, b.e)
		// Acts before it or behind it do not save the table.
		checkApply(t, l, []api.Act{good, b.act, good}, nil, b.e)
		for _, c := range badActs() {
			checkApply(t, l, []api.Act{b.act, c.act}, nil, b.e)
			checkApply(t, l, []api.Act{good, b.act, good, c.act}, nil, b.e)
		}
	}
}

// TestApplyOfBadPlaces has acts with errors in each place of a long list, also in the last one, and then another one behind it.
func TestApplyOfBadPlaces(t *testing.T) {
	for _, size := range []int{1, 30, api.MaxRoutes} {
		l := many(0, size)
		for _, b := range badActs() {
			for i := 0; i < mostActs; i += 1 + i%4 {
				long := slices.Repeat([]api.Act{put(l[0])}, mostActs)
				long[i] = b.act
				checkApply(t, l, long, nil, b.e)
				long[mostActs-1] = cut(prefix(four(999), 32))
				if i < mostActs-1 {
					checkApply(t, l, long, nil, b.e)
				}
			}
		}
	}
}

func TestApplyOfFullTable(t *testing.T) {
	all := many(0, api.MaxRoutes+2)
	l, more, most := all[:api.MaxRoutes], all[api.MaxRoutes], all[api.MaxRoutes+1]
	first := l[0]
	checkApply(t, l, nil, modelOf(l).routes(), api.OK)
	checkApply(t, l, []api.Act{put(more)}, nil, api.ErrFull)
	checkApply(t, l, []api.Act{put(first), put(more), cut(first.Prefix)}, nil, api.ErrFull)
	// What is wrong with the route itself counts before the room for it.
	checkApply(t, l, []api.Act{put(api.Route{Prefix: more.Prefix})}, nil, api.ErrRange)
	checkApply(t, l, []api.Act{put(api.Route{Prefix: prefix(four(1), 31), Hop: 1})}, nil, api.ErrBits)
	// A route that is there has room, and one that is cut makes room for one.
	first.Hop = 500
	changed := slices.Concat([]api.Route{first}, l[1:])
	checkApply(t, l, []api.Act{put(first)}, modelOf(changed).routes(), api.OK)
	checkApply(t, l, []api.Act{cut(first.Prefix), put(more)}, modelOf(all[1:api.MaxRoutes+1]).routes(), api.OK)
	checkApply(t, l, []api.Act{cut(first.Prefix), put(more), put(most)}, nil, api.ErrFull)
	checkApply(t, l[1:], []api.Act{put(more)}, modelOf(all[1:api.MaxRoutes+1]).routes(), api.OK)
	checkApply(t, l[1:], []api.Act{put(more), put(most)}, nil, api.ErrFull)
}

// TestApplyOfSizes has lists of acts that are too long, and some that are as long as can be, with a table that is empty, full or in between.
func TestApplyOfSizes(t *testing.T) {
	r := api.Route{Prefix: prefix(six(1, 1), 128), Hop: 1}
	for _, size := range []int{0, 1, 39, 40, 41, api.MaxRoutes - 1, api.MaxRoutes} {
		l := many(0, size)
		changes := slices.Repeat([]api.Act{put(r), cut(r.Prefix)}, mostActs)
		if size == api.MaxRoutes {
			changes = slices.Repeat([]api.Act{cut(l[0].Prefix), put(l[0])}, mostActs)
		}
		for n := range mostActs + 1 {
			m := modelOf(l)
			m.do(changes[:n])
			checkApply(t, l, changes[:n], m.routes(), api.OK)
		}
		for _, n := range []int{mostActs + 1, mostActs + 2, 2 * mostActs} {
			checkApply(t, l, changes[:n], nil, api.ErrSize)
		}
	}
}

func TestApplyOfErrors(t *testing.T) {
	long := make([]api.Act, mostActs+1)
	for _, b := range badTables() {
		// The table counts before the acts and their number.
		checkApply(t, b.l, nil, nil, b.e)
		checkApply(t, b.l, long, nil, b.e)
		for _, c := range badActs() {
			checkApply(t, b.l, []api.Act{c.act}, nil, b.e)
		}
	}
	// Their number counts before the acts, which may have every error.
	for _, b := range badActs() {
		checkApply(t, nil, slices.Repeat([]api.Act{b.act}, mostActs+1), nil, api.ErrSize)
		checkApply(t, many(0, api.MaxRoutes), slices.Repeat([]api.Act{b.act}, mostActs+1), nil, api.ErrSize)
		checkApply(t, nil, slices.Repeat([]api.Act{b.act}, mostActs), nil, b.e)
	}
	checkApply(t, nil, long, nil, api.ErrSize)
	checkApply(t, nil, long[:mostActs], nil, api.ErrKind)
}

// TestApplyOfModel has acts on so few prefixes that routes come, change and go, and that the table gets full.
func TestApplyOfModel(t *testing.T) {
	rnd := rand.New(rand.NewSource(75))
	count := map[api.Errno]int{}
	for range 1000 {
		l := randomTable(rnd)
		acts := randomActs(rnd, l, rnd.Intn(mostActs+1))
		m := modelOf(l)
		e := m.do(acts)
		count[e]++
		if e == api.OK {
			checkApply(t, l, acts, m.routes(), e)
		} else {
			checkApply(t, l, acts, nil, e)
		}
	}
	for _, e := range []api.Errno{api.OK, api.ErrNone, api.ErrFull} {
		if count[e] < 50 {
			t.Errorf("%d lists of acts have the error %v", count[e], e)
		}
	}
}

// randomActs lists n acts, of which few have an error.
func randomActs(rnd *rand.Rand, l []api.Route, n int) []api.Act {
	all := many(0, 3*api.MaxRoutes)
	m := modelOf(l)
	var acts []api.Act
	for len(acts) < n {
		r := all[rnd.Intn(len(all))]
		r.Hop = 1 + rnd.Intn(api.MaxHop)
		act := put(r)
		if rnd.Intn(3) == 0 {
			act = cut(r.Prefix)
		}
		if m.do([]api.Act{act}) == api.OK || rnd.Intn(100) == 0 {
			acts = append(acts, act)
		}
	}
	return acts
}

// TestMemory has lists with spare capacity: neither they nor that may change, also not when results are changed.
func TestMemory(t *testing.T) {
	l, m := many(0, api.MaxRoutes), many(30, api.MaxRoutes)
	d, _ := delta.Diff(l[:40], m[:40])
	lBefore, mBefore, dBefore := slices.Clone(l), slices.Clone(m), slices.Clone(d)
	results := func() ([]api.Act, []api.Route, []api.Route) {
		changes, _ := delta.Diff(l[:40], m[:40])
		after, _ := delta.Apply(l[:40], d[:25])
		alone, _ := delta.Apply(l[:40], d[:0])
		return changes, after, alone
	}
	changes, after, alone := results()
	changesBefore, afterBefore, aloneBefore := slices.Clone(changes), slices.Clone(after), slices.Clone(alone)
	changesAgain, afterAgain, aloneAgain := results()
	fill(changes[:cap(changes)], api.Act{Kind: 99})
	fill(after[:cap(after)], api.Route{Hop: 99})
	fill(alone[:cap(alone)], api.Route{Hop: 99})
	if !slices.Equal(l, lBefore) || !slices.Equal(m, mBefore) || !slices.Equal(d, dBefore) {
		t.Errorf("arguments have changed")
	}
	if !slices.Equal(changesAgain, changesBefore) || !slices.Equal(afterAgain, afterBefore) || !slices.Equal(aloneAgain, aloneBefore) {
		t.Errorf("results of two calls share memory, or differ")
	}
	if table.Check(afterAgain) != api.OK || len(afterAgain) == 0 || len(alone) != 40 {
		t.Errorf("the tables have %d and %d routes", len(afterAgain), len(alone))
	}
}

func fill[T any](l []T, v T) {
	for i := range l {
		l[i] = v
	}
}
