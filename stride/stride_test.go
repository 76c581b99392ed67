package stride_test

import (
	"cmp"
	"fmt"
	"maps"
	"math"
	"math/bits"
	"math/rand"
	"slices"
	"strconv"
	"strings"
	"testing"

	"whipcord/addr"
	"whipcord/api"
	"whipcord/pre"
	"whipcord/stride"
	"whipcord/table"
)

const maxFour = 1<<32 - 1

func four(lo uint64) api.Addr {
	return api.Addr{Lo: lo}
}

func six(hi, lo uint64) api.Addr {
	return api.Addr{Six: true, Hi: hi, Lo: lo}
}

func prefix(a api.Addr, n int) api.Prefix {
	return api.Prefix{Addr: a, Len: n}
}

// at and to read addresses and routes, so that the tests can name them as the document does.
func at(t *testing.T, text string) api.Addr {
	t.Helper()
	a, e := addr.Parse(text)
	if e != api.OK {
		t.Fatalf("Parse(%q): %v", text, e)
	}
	return a
}

func to(t *testing.T, text string, hop int) api.Route {
	t.Helper()
	p, e := pre.Parse(text)
	if e != api.OK {
		t.Fatalf("Parse(%q): %v", text, e)
	}
	return api.Route{Prefix: p, Hop: hop}
}

// route is the route for the prefix of these bits, written as a text of 0 and 1.
func route(digits string, hop int) api.Route {
	lo, _ := strconv.ParseUint(digits+strings.Repeat("0", 32-len(digits)), 2, 64)
	return api.Route{Prefix: prefix(four(lo), len(digits)), Hop: hop}
}

func digitsOf(p api.Prefix) string {
	return fmt.Sprintf("%032b", p.Addr.Lo)[:p.Len]
}

// many lists n routes with different prefixes of 32 bits, spread such that their trie has as many nodes as can be.
func many(n int) []api.Route {
	var l []api.Route
	for i := range n {
		l = append(l, route(fmt.Sprintf("%04b%04b%024b", i%16, i/16, i), i+1))
	}
	return l
}

func badNodes() [][]api.Node {
	return [][]api.Node{
		nil,
		{},
		{{}, {}},
		{{Inner: 1, Hops: []int{1}}},
		{{Inner: 2}},
		{{Hops: []int{1}}},
		{{Outer: 1, Kids: []int{0}}},
		{{Outer: 1, Kids: []int{1}}, {}},
		{{Outer: 1, Kids: []int{1}}, {Outer: 1, Kids: []int{0}}},
	}
}

func badAddrs() []api.Addr {
	return []api.Addr{four(maxFour + 1), four(math.MaxUint64), {Hi: 1}, {Hi: math.MaxUint64, Lo: 1}}
}

func same(m, n []api.Node) bool {
	return slices.EqualFunc(m, n, func(m, n api.Node) bool {
		return m.Inner == n.Inner && m.Outer == n.Outer && slices.Equal(m.Hops, n.Hops) && slices.Equal(m.Kids, n.Kids)
	})
}

func clone(nodes []api.Node) []api.Node {
	out := slices.Clone(nodes)
	for i, n := range out {
		out[i].Hops, out[i].Kids = slices.Clone(n.Hops), slices.Clone(n.Kids)
	}
	return out
}

func checkMake(t *testing.T, l []api.Route, want []api.Node, wantE api.Errno) {
	t.Helper()
	if got, e := stride.Make(l); !same(got, want) || e != wantE {
		t.Errorf("Make(%v): %v %v, want %v %v", l, got, e, want, wantE)
	}
}

func checkMay(t *testing.T, nodes []api.Node, want bool) {
	t.Helper()
	if got := stride.May(nodes); got != want {
		t.Errorf("May(%v): %v, want %v", nodes, got, want)
	}
}

func checkLook(t *testing.T, nodes []api.Node, a api.Addr, want api.Answer, wantE api.Errno) {
	t.Helper()
	if got, e := stride.Look(nodes, a); got != want || e != wantE {
		t.Errorf("Look(%v, %v): %v %v, want %v %v", nodes, a, got, e, want, wantE)
	}
}

func checkRoutes(t *testing.T, nodes []api.Node, want []api.Route, wantE api.Errno) {
	t.Helper()
	if got, e := stride.Routes(nodes); !slices.Equal(got, want) || e != wantE {
		t.Errorf("Routes(%v): %v %v, want %v %v", nodes, got, e, want, wantE)
	}
}

// checkTrie checks all functions for the table l, which is valid and IPv4.
func checkTrie(t *testing.T, l []api.Route) {
	t.Helper()
	nodes := trie(l)
	checkMake(t, l, nodes, api.OK)
	checkMay(t, nodes, true)
	sorted := slices.Clone(l)
	slices.SortFunc(sorted, func(r, s api.Route) int {
		return strings.Compare(digitsOf(r.Prefix), digitsOf(s.Prefix))
	})
	checkRoutes(t, nodes, sorted, api.OK)
	for _, a := range edges(l) {
		want, e := table.Look(l, a)
		checkLook(t, nodes, a, want, e)
	}
}

// trie is the model: the nodes by the bits of their prefixes, as texts. The order by length and then by text is breadth-first.
func trie(l []api.Route) []api.Node {
	places := map[string]bool{"": true}
	for _, r := range l {
		for s := home(r); s != ""; s = s[:len(s)-4] {
			places[s] = true
		}
	}
	order := slices.SortedFunc(maps.Keys(places), func(s, t string) int {
		return cmp.Or(cmp.Compare(len(s), len(t)), cmp.Compare(s, t))
	})
	var nodes []api.Node
	for _, s := range order {
		n := innerOf(s, l)
		for i := range 16 {
			if child := fmt.Sprintf("%s%04b", s, i); places[child] {
				n.Outer |= 1 << i
				n.Kids = append(n.Kids, slices.Index(order, child))
			}
		}
		nodes = append(nodes, n)
	}
	return nodes
}

// home is the prefix of the node that has the route.
func home(r api.Route) string {
	return digitsOf(r.Prefix)[:r.Prefix.Len/4*4]
}

func innerOf(s string, l []api.Route) api.Node {
	hops := map[int]int{}
	for _, r := range l {
		if home(r) == s {
			number, _ := strconv.ParseInt("1"+strings.TrimPrefix(digitsOf(r.Prefix), s), 2, 64)
			hops[int(number)] = r.Hop
		}
	}
	var n api.Node
	for _, number := range slices.Sorted(maps.Keys(hops)) {
		n.Inner |= 1 << number
		n.Hops = append(n.Hops, hops[number])
	}
	return n
}

// valid is the model of May: what P5.1 and P5.2 say of a node, one after another.
func valid(nodes []api.Node) bool {
	levels := []int{0}
	routes := 0
	for i, n := range nodes {
		if i >= len(levels) || n.Inner&1 == 1 || n.Inner >= 1<<16 || n.Outer >= 1<<16 {
			return false
		}
		if len(n.Hops) != bits.OnesCount64(n.Inner) || len(n.Kids) != bits.OnesCount64(n.Outer) {
			return false
		}
		if i > 0 && len(n.Hops)+len(n.Kids) == 0 || levels[i] == 8 && (n.Inner != 2 || n.Outer != 0) {
			return false
		}
		for _, kid := range n.Kids {
			if kid != len(levels) {
				return false
			}
			levels = append(levels, levels[i]+1)
		}
		for _, hop := range n.Hops {
			if hop < 1 || hop > api.MaxHop {
				return false
			}
		}
		routes += len(n.Hops)
	}
	return len(levels) == len(nodes) && routes <= api.MaxRoutes
}

// edges lists the first and the last address of each prefix and the ones beside them.
func edges(l []api.Route) []api.Addr {
	known := map[uint64]bool{0: true, maxFour: true}
	for _, r := range l {
		first, last, _ := pre.Span(r.Prefix)
		for _, lo := range []uint64{first.Lo - 1, first.Lo, last.Lo, last.Lo + 1} {
			known[lo%(maxFour+1)] = true
		}
	}
	var out []api.Addr
	for _, lo := range slices.Sorted(maps.Keys(known)) {
		out = append(out, four(lo))
	}
	return out
}

// P5.1

func TestExample(t *testing.T) {
	l := []api.Route{to(t, "0.0.0.0/0", 1), to(t, "10.0.0.0/8", 2), to(t, "192.0.0.0/3", 3)}
	nodes := []api.Node{
		{Inner: 1<<1 | 1<<14, Outer: 1 << 0, Hops: []int{1, 3}, Kids: []int{1}},
		{Outer: 1 << 10, Kids: []int{2}},
		{Inner: 1 << 1, Hops: []int{2}},
	}
	checkMake(t, l, nodes, api.OK)
	checkMay(t, nodes, true)
	checkRoutes(t, nodes, []api.Route{l[0], l[1], l[2]}, api.OK)
	checkLook(t, nodes, at(t, "10.0.0.9"), api.Answer{Hop: 2, Len: 8}, api.OK)
	checkLook(t, nodes, at(t, "208.0.0.0"), api.Answer{Hop: 3, Len: 3}, api.OK)
	checkLook(t, nodes, at(t, "11.0.0.0"), api.Answer{Hop: 1}, api.OK)
	checkLook(t, nodes, at(t, "224.0.0.0"), api.Answer{Hop: 1}, api.OK)
}

// TestInnerPrefixes has each inner prefix on its own, at each level.
func TestInnerPrefixes(t *testing.T) {
	inner := []string{"", "0", "1", "00", "01", "10", "11", "000", "001", "010", "011", "100", "101", "110", "111"}
	for level := range 8 {
		start := strings.Repeat("1011", level)
		for i, more := range inner {
			r := route(start+more, 7)
			nodes := slices.Repeat([]api.Node{{Outer: 1 << 11}}, level)
			for j := range nodes {
				nodes[j].Kids = []int{j + 1}
			}
			nodes = append(nodes, api.Node{Inner: 1 << (i + 1), Hops: []int{7}})
			checkMake(t, []api.Route{r}, nodes, api.OK)
			checkTrie(t, []api.Route{r})
		}
	}
	var all []api.Route
	var hops []int
	for i, more := range inner {
		all = append(all, route(more, 100-i))
		hops = append(hops, 100-i)
	}
	slices.Reverse(all)
	checkMake(t, all, []api.Node{{Inner: 1<<16 - 2, Hops: hops}}, api.OK)
	checkTrie(t, all)
}

// TestChildren has each child on its own, and all of them, at each level.
func TestChildren(t *testing.T) {
	for level := range 8 {
		start := strings.Repeat("0110", level)
		var all []api.Route
		for i := range 16 {
			r := route(fmt.Sprintf("%s%04b", start, i), 1+i)
			all = append(all, r)
			nodes, e := stride.Make([]api.Route{r})
			if e != api.OK || len(nodes) != level+2 || nodes[level].Outer != 1<<i || !slices.Equal(nodes[level].Kids, []int{level + 1}) {
				t.Errorf("Make(%v): %v %v", r, nodes, e)
			}
			checkTrie(t, []api.Route{r})
		}
		slices.Reverse(all)
		checkTrie(t, all)
		nodes, _ := stride.Make(all)
		if len(nodes) != level+17 || nodes[level].Outer != 1<<16-1 || nodes[level].Kids[0] != level+1 || nodes[level].Kids[15] != level+16 {
			t.Errorf("Make(%v): %v", all, nodes)
		}
	}
}

// TestLengths has the prefixes of all lengths of some addresses: alone, and all at once.
func TestLengths(t *testing.T) {
	for _, a := range []uint64{0, maxFour, 10<<24 | 5, 0x80000001, 0x12345678} {
		digits := fmt.Sprintf("%032b", a)
		var all []api.Route
		for n := range 33 {
			r := route(digits[:n], 1+n)
			all = append(all, r)
			checkTrie(t, []api.Route{r})
			checkTrie(t, all)
		}
		nodes, _ := stride.Make(all)
		if last := nodes[len(nodes)-1]; len(nodes) != 9 || last.Inner != 2 || last.Outer != 0 || !slices.Equal(last.Hops, []int{33}) {
			t.Errorf("Make(%v): %v", all, nodes)
		}
	}
}

// P5.2

func TestMakeOfNothing(t *testing.T) {
	for _, l := range [][]api.Route{nil, {}} {
		checkMake(t, l, []api.Node{{}}, api.OK)
		checkTrie(t, l)
	}
}

// TestMakeCountsInBreadth has nodes whose order in breadth is not that in depth, nor that of the routes.
func TestMakeCountsInBreadth(t *testing.T) {
	l := []api.Route{to(t, "240.0.0.0/4", 1), to(t, "31.0.0.0/8", 2), to(t, "16.0.0.0/8", 3), to(t, "16.0.0.0/12", 4), to(t, "64.0.0.0/8", 5)}
	want := []api.Node{
		{Outer: 1<<1 | 1<<4 | 1<<15, Kids: []int{1, 2, 3}},
		{Outer: 1<<0 | 1<<15, Kids: []int{4, 5}},
		{Outer: 1 << 0, Kids: []int{6}},
		{Inner: 2, Hops: []int{1}},
		{Inner: 2, Outer: 1 << 0, Hops: []int{3}, Kids: []int{7}},
		{Inner: 2, Hops: []int{2}},
		{Inner: 2, Hops: []int{5}},
		{Inner: 2, Hops: []int{4}},
	}
	rnd := rand.New(rand.NewSource(5))
	for range 50 {
		checkMake(t, l, want, api.OK)
		rnd.Shuffle(len(l), func(i, j int) { l[i], l[j] = l[j], l[i] })
	}
	checkTrie(t, l)
}

func TestMakeOfErrors(t *testing.T) {
	good, sixth := to(t, "10.0.0.0/8", 1), to(t, "::/0", 1)
	bad := []struct {
		r api.Route
		e api.Errno
	}{
		{api.Route{Prefix: prefix(four(maxFour+1), 8), Hop: 1}, api.ErrForm},
		{api.Route{Prefix: prefix(api.Addr{Hi: 1}, 0), Hop: 1}, api.ErrForm},
		{api.Route{Prefix: prefix(four(0), -1), Hop: 1}, api.ErrRange},
		{api.Route{Prefix: prefix(four(0), 33), Hop: 1}, api.ErrRange},
		{api.Route{Prefix: prefix(four(0), math.MinInt), Hop: 1}, api.ErrRange},
		{api.Route{Prefix: prefix(four(1), 31), Hop: 1}, api.ErrBits},
		{api.Route{Prefix: prefix(four(0), 0), Hop: 0}, api.ErrRange},
		{api.Route{Prefix: prefix(four(0), 0), Hop: api.MaxHop + 1}, api.ErrRange},
		{api.Route{Prefix: prefix(six(0, 0), 129), Hop: 1}, api.ErrRange},
		{api.Route{Prefix: prefix(six(0, 0), 0), Hop: -1}, api.ErrRange},
		{good, api.ErrTwice},
	}
	for _, b := range bad {
		checkMake(t, []api.Route{good, b.r}, nil, b.e)
		// What is wrong with the table counts before the family, wherever it stands.
		checkMake(t, []api.Route{good, sixth, b.r}, nil, b.e)
		checkMake(t, []api.Route{good, b.r, sixth}, nil, b.e)
	}
	checkMake(t, []api.Route{sixth, sixth}, nil, api.ErrTwice)
	for _, text := range []string{"::/0", "::/32", "::1/128", "a00::/8", "ffff:ffff:ffff:ffff:ffff:ffff:ffff:ffff/128"} {
		for i := range 3 {
			checkMake(t, slices.Insert(many(2), i, to(t, text, 1)), nil, api.ErrFamily)
		}
		checkMake(t, []api.Route{to(t, text, 1)}, nil, api.ErrFamily)
	}
}

func TestSizes(t *testing.T) {
	for _, n := range []int{1, 16, 17, api.MaxRoutes - 1, api.MaxRoutes} {
		checkTrie(t, many(n))
	}
	if nodes := trie(many(api.MaxRoutes)); len(nodes) != 1+16+7*api.MaxRoutes {
		t.Errorf("%d nodes of a full table", len(nodes))
	}
	for _, n := range []int{api.MaxRoutes + 1, 2 * api.MaxRoutes} {
		checkMake(t, many(n), nil, api.ErrSize)
		checkMake(t, append(many(n), to(t, "::/0", 0)), nil, api.ErrSize)
		// It looks like a trie, but its table would be too large.
		checkBad(t, trie(many(n)))
	}
	// The sizes count with short prefixes too, where few nodes have many routes.
	var l []api.Route
	for i := range api.MaxRoutes + 1 {
		l = append(l, route(fmt.Sprintf("%06b", i), 1+i))
	}
	checkTrie(t, l[:api.MaxRoutes])
	checkMake(t, l, nil, api.ErrSize)
	checkBad(t, trie(l))
	checkMake(t, make([]api.Route, api.MaxRoutes+1), nil, api.ErrSize)
}

// TestAllTables has every subset of some prefixes that cover each other or not.
func TestAllTables(t *testing.T) {
	for _, start := range []string{"", "0", "101", "1010", "01011", strings.Repeat("1", 29), strings.Repeat("0", 28)} {
		places := []string{"", start + "0", start + "1", start + "00", start + "01", start + "011", start + "110", start + "111"}
		if len(start)+8 <= 32 {
			places = append(places, start+"10000", start+"00110011")
		}
		for set := range 1 << len(places) {
			var l []api.Route
			for i, s := range places {
				if set>>i&1 == 1 {
					l = append(l, route(s, 100+i))
				}
			}
			checkTrie(t, l)
		}
	}
}

func randomTable(rnd *rand.Rand) []api.Route {
	known := map[string]int{}
	for range rnd.Intn(api.MaxRoutes + 1) {
		digits := fmt.Sprintf("%032b", rnd.Uint32())
		// Few different nodes at the start, so that prefixes meet each other.
		if rnd.Intn(2) == 0 {
			digits = "0001" + digits[4:]
		}
		known[digits[:rnd.Intn(1+[]int{6, 12, 32}[rnd.Intn(3)])]] = 1 + rnd.Intn(api.MaxHop)
	}
	var l []api.Route
	for _, s := range slices.Sorted(maps.Keys(known)) {
		l = append(l, route(s, known[s]))
	}
	rnd.Shuffle(len(l), func(i, j int) { l[i], l[j] = l[j], l[i] })
	return l
}

func TestRandomTables(t *testing.T) {
	rnd := rand.New(rand.NewSource(52))
	for range 60 {
		checkTrie(t, randomTable(rnd))
	}
}

// P5.3

// checkBad checks all functions for nodes that are no trie.
func checkBad(t *testing.T, nodes []api.Node) {
	t.Helper()
	checkMay(t, nodes, false)
	checkRoutes(t, nodes, nil, api.ErrForm)
	checkLook(t, nodes, four(10<<24), api.Answer{}, api.ErrForm)
}

func checkAsModel(t *testing.T, nodes []api.Node) {
	t.Helper()
	if valid(nodes) {
		checkMay(t, nodes, true)
	} else {
		checkBad(t, nodes)
	}
}

func TestMay(t *testing.T) {
	checkMay(t, []api.Node{{}}, true)
	checkMay(t, []api.Node{{Hops: []int{}, Kids: []int{}}}, true)
	for _, nodes := range badNodes() {
		checkBad(t, nodes)
	}
	nodes := trie([]api.Route{to(t, "0.0.0.0/0", 1), to(t, "10.0.0.0/8", 2), to(t, "192.0.0.0/3", 3)})
	for n := range nodes {
		checkBad(t, nodes[:n])
		checkBad(t, slices.Concat(nodes, nodes[n:n+1]))
		checkBad(t, slices.Insert(clone(nodes), n, api.Node{}))
		checkAsModel(t, nodes[n:])
		checkAsModel(t, slices.Delete(clone(nodes), n, n+1))
	}
	checkBad(t, append(clone(nodes), api.Node{}))
}

// TestMayOfInner has every set of inner prefixes.
func TestMayOfInner(t *testing.T) {
	hops := slices.Repeat([]int{5}, 17)
	for inner := range uint64(1<<16 + 100) {
		n := bits.OnesCount64(inner)
		node := api.Node{Inner: inner, Hops: hops[:n]}
		checkMay(t, []api.Node{node}, inner%2 == 0 && inner < 1<<16)
		// At the eighth level, there is only one.
		if inner < 300 {
			nodes := trie([]api.Route{route(strings.Repeat("0", 32), 1)})
			nodes[8] = node
			checkMay(t, nodes, inner == 2)
		}
	}
	for i := 16; i < 64; i++ {
		checkBad(t, []api.Node{{Inner: 1 << i, Hops: []int{5}}})
		checkBad(t, []api.Node{{Inner: 2 | 1<<i, Hops: []int{5, 5}}})
		checkBad(t, []api.Node{{Inner: 2 | 1<<i, Hops: []int{5}}})
	}
}

// TestMayOfChildren has every number of children, with children that have routes.
func TestMayOfChildren(t *testing.T) {
	for i := range 64 {
		nodes := []api.Node{{Outer: 1 << i, Kids: []int{1}}, {Inner: 2, Hops: []int{5}}}
		checkMay(t, nodes, i < 16)
		nodes[0].Outer |= 1
		checkMay(t, nodes, i == 0)
		nodes[0].Kids = []int{1, 2}
		checkMay(t, nodes, false)
		checkMay(t, append(nodes, nodes[1]), i > 0 && i < 16)
	}
	// A node without a route needs a child that has one.
	checkBad(t, []api.Node{{Outer: 1, Kids: []int{1}}, {Outer: 1, Kids: []int{2}}, {}})
	checkBad(t, []api.Node{{Outer: 3, Kids: []int{1, 2}}, {}, {Inner: 2, Hops: []int{5}}})
	checkBad(t, []api.Node{{Inner: 2, Outer: 3, Hops: []int{5}, Kids: []int{1, 2}}, {Inner: 2, Hops: []int{5}}, {}})
}

func TestMayOfNumbers(t *testing.T) {
	for _, x := range []int{math.MinInt, -1, 0, 1, 2, 3, 4, 5, api.MaxHop, api.MaxHop + 1, math.MaxInt} {
		checkMay(t, []api.Node{{Inner: 2, Hops: []int{x}}}, x >= 1 && x <= api.MaxHop)
		nodes := trie([]api.Route{route("00010001", 1), route("0010", 2), route("0011", 3)})
		for i, n := range nodes {
			for j := range n.Kids {
				other := clone(nodes)
				other[i].Kids[j] = x
				checkMay(t, other, x == nodes[i].Kids[j])
			}
		}
	}
}

// TestMayOfDepth has nodes in a chain: each one is the only child of the one before.
func TestMayOfDepth(t *testing.T) {
	for depth := range 200 {
		for part := range 16 {
			nodes := make([]api.Node, depth+1)
			for i := range depth {
				nodes[i] = api.Node{Outer: 1 << part, Kids: []int{i + 1}}
			}
			checkMay(t, nodes, depth == 0)
			nodes[depth] = api.Node{Inner: 2, Hops: []int{5}}
			checkMay(t, nodes, depth <= 8)
			nodes[depth] = api.Node{Inner: 4, Hops: []int{5}}
			checkMay(t, nodes, depth < 8)
			nodes[depth] = api.Node{Inner: 1<<15 | 2, Hops: []int{5, 6}}
			checkMay(t, nodes, depth < 8)
		}
	}
}

// TestMayOfChanges changes one thing in a trie: what May reports is as the document says of each node.
func TestMayOfChanges(t *testing.T) {
	rnd := rand.New(rand.NewSource(53))
	yes, no := 0, 0
	for range 1000 {
		nodes := trie(randomTable(rnd))
		for range 1 + rnd.Intn(2) {
			change(rnd, nodes)
		}
		if rnd.Intn(10) == 0 {
			i, j := rnd.Intn(len(nodes)), rnd.Intn(len(nodes))
			nodes[i], nodes[j] = nodes[j], nodes[i]
		}
		checkAsModel(t, nodes)
		if valid(nodes) {
			yes++
			checkMake(t, routesOf(nodes, 0, ""), nodes, api.OK)
		} else {
			no++
		}
	}
	if yes < 100 || no < 100 {
		t.Errorf("%d tries are valid, %d are not", yes, no)
	}
}

func change(rnd *rand.Rand, nodes []api.Node) {
	n := &nodes[rnd.Intn(len(nodes))]
	switch rnd.Intn(6) {
	case 0:
		n.Inner ^= 1 << rnd.Intn(18)
	case 1:
		n.Outer ^= 1 << rnd.Intn(18)
	case 2:
		// Another inner prefix has the route.
		if i := bits.TrailingZeros64(n.Inner); i < 16 {
			n.Inner ^= 1<<i | 1<<rnd.Intn(16)
		}
	case 3:
		if i := bits.TrailingZeros64(n.Outer); i < 16 {
			n.Outer ^= 1<<i | 1<<rnd.Intn(17)
		}
	case 4:
		if len(n.Hops) > 0 {
			n.Hops[rnd.Intn(len(n.Hops))] = rnd.Intn(1100) - 50
		} else {
			n.Hops = append(n.Hops, 1)
		}
	case 5:
		if len(n.Kids) > 0 {
			n.Kids[rnd.Intn(len(n.Kids))] += rnd.Intn(3) - 1
		} else {
			n.Inner, n.Hops = n.Inner|1<<15, append(n.Hops, 1)
		}
	}
}

// routesOf lists the routes of a valid trie from node i on, which represents the prefix s.
func routesOf(nodes []api.Node, i int, s string) []api.Route {
	var l []api.Route
	hops, kids := nodes[i].Hops, nodes[i].Kids
	for number := range 16 {
		if nodes[i].Inner>>number&1 == 1 {
			l = append(l, route(s+fmt.Sprintf("%b", number)[1:], hops[0]))
			hops = hops[1:]
		}
	}
	for child := range 16 {
		if nodes[i].Outer>>child&1 == 1 {
			l = append(l, routesOf(nodes, kids[0], fmt.Sprintf("%s%04b", s, child))...)
			kids = kids[1:]
		}
	}
	return l
}

// TestMayOfAnything has nodes of numbers at random, and lists that are far too long.
func TestMayOfAnything(t *testing.T) {
	rnd := rand.New(rand.NewSource(54))
	number := func() int {
		return []int{rnd.Intn(4), rnd.Intn(4), -1, 1 << 40, math.MaxInt, math.MinInt}[rnd.Intn(6)]
	}
	numbers := func() []int {
		var l []int
		for range rnd.Intn(4) {
			l = append(l, number())
		}
		return l
	}
	for range 20000 {
		var nodes []api.Node
		for range rnd.Intn(12) {
			nodes = append(nodes, api.Node{Inner: rnd.Uint64() >> rnd.Intn(64), Outer: rnd.Uint64() >> rnd.Intn(64), Hops: numbers(), Kids: numbers()})
		}
		checkAsModel(t, nodes)
	}
	for _, n := range []api.Node{{}, {Inner: math.MaxUint64, Outer: math.MaxUint64}, {Inner: 2, Outer: 1<<16 - 1, Hops: []int{1}, Kids: make([]int, 16)}} {
		for _, size := range []int{481, 482, 1000, 100000} {
			checkMay(t, slices.Repeat([]api.Node{n}, size), false)
		}
	}
}

// Look and Routes, which the chapter describes beside P5.3

func TestLook(t *testing.T) {
	nodes := trie([]api.Route{to(t, "10.0.0.0/8", 1), to(t, "10.1.0.0/16", 2), to(t, "10.1.2.3/32", 3)})
	checkLook(t, nodes, at(t, "10.1.2.3"), api.Answer{Hop: 3, Len: 32}, api.OK)
	checkLook(t, nodes, at(t, "10.1.2.2"), api.Answer{Hop: 2, Len: 16}, api.OK)
	checkLook(t, nodes, at(t, "10.1.2.4"), api.Answer{Hop: 2, Len: 16}, api.OK)
	checkLook(t, nodes, at(t, "10.2.3.4"), api.Answer{Hop: 1, Len: 8}, api.OK)
	checkLook(t, nodes, at(t, "11.0.0.0"), api.Answer{}, api.OK)
	checkLook(t, nodes, at(t, "9.255.255.255"), api.Answer{}, api.OK)
	for _, text := range []string{"0.0.0.0", "10.1.2.3", "255.255.255.255"} {
		checkLook(t, []api.Node{{}}, at(t, text), api.Answer{}, api.OK)
		checkLook(t, []api.Node{{Inner: 2, Hops: []int{api.MaxHop}}}, at(t, text), api.Answer{Hop: api.MaxHop}, api.OK)
	}
}

func TestLookOfErrors(t *testing.T) {
	sixes := []api.Addr{six(0, 0), six(0, 10<<24), six(math.MaxUint64, math.MaxUint64)}
	for _, nodes := range [][]api.Node{{{}}, {{Inner: 2, Hops: []int{1}}}, trie(many(3))} {
		for _, a := range badAddrs() {
			checkLook(t, nodes, a, api.Answer{}, api.ErrForm)
		}
		for _, a := range sixes {
			checkLook(t, nodes, a, api.Answer{}, api.ErrFamily)
		}
	}
	// The nodes count before the family.
	for _, nodes := range badNodes() {
		for _, a := range slices.Concat(badAddrs(), sixes, []api.Addr{four(0)}) {
			checkLook(t, nodes, a, api.Answer{}, api.ErrForm)
		}
	}
}

func TestRoutes(t *testing.T) {
	checkRoutes(t, []api.Node{{}}, nil, api.OK)
	want := []api.Route{
		to(t, "0.0.0.0/0", 9), to(t, "0.0.0.0/1", 8), to(t, "0.0.0.0/32", 7), to(t, "9.0.0.0/8", 6), to(t, "10.0.0.0/7", 5), to(t, "10.0.0.0/8", 4),
		to(t, "10.0.0.0/32", 3), to(t, "10.64.0.0/10", 2), to(t, "10.128.0.0/9", 1), to(t, "128.0.0.0/1", 10), to(t, "255.255.255.255/32", 11),
	}
	l := slices.Clone(want)
	slices.Reverse(l)
	checkRoutes(t, trie(l), want, api.OK)
}

// TestMemory has lists with spare capacity: neither they nor that may change, also not when results are changed.
func TestMemory(t *testing.T) {
	routes := many(40)
	routesBefore := slices.Clone(routes)
	nodes, _ := stride.Make(routes[:30])
	nodesBefore := clone(nodes)
	for i, n := range nodes {
		fill(n.Hops[:cap(n.Hops)], 77)
		fill(n.Kids[:cap(n.Kids)], 78)
		nodes[i] = nodesBefore[i]
		if !same(nodes, nodesBefore) {
			t.Fatalf("lists of node %d share memory with others", i)
		}
	}
	if !slices.Equal(routes, routesBefore) {
		t.Errorf("the routes have changed")
	}
	checkMake(t, routes[:30], nodesBefore, api.OK)
}

// TestMemoryOfNodes has spare capacity in the list of nodes and in their lists.
func TestMemoryOfNodes(t *testing.T) {
	nodes := append(trie(many(30)), api.Node{Inner: 99})
	for i, n := range nodes {
		nodes[i].Hops = append(slices.Clone(n.Hops), 98, 99)[:len(n.Hops)]
		nodes[i].Kids = append(slices.Clone(n.Kids), 98, 99)[:len(n.Kids)]
	}
	before := clone(nodes)
	part := nodes[:len(nodes)-1]
	stride.May(part)
	stride.Look(part, four(10<<24))
	routes, _ := stride.Routes(part)
	routesBefore := slices.Clone(routes)
	again, _ := stride.Routes(part)
	fill(routes[:cap(routes)], api.Route{Hop: 99})
	if !same(nodes, before) {
		t.Errorf("the nodes have changed")
	}
	for _, n := range nodes {
		if !slices.Equal(n.Hops[len(n.Hops):len(n.Hops)+2], []int{98, 99}) || !slices.Equal(n.Kids[len(n.Kids):len(n.Kids)+2], []int{98, 99}) {
			t.Errorf("the spare capacity of %v has changed", n)
		}
	}
	if !slices.Equal(again, routesBefore) {
		t.Errorf("results of two calls share memory")
	}
	checkRoutes(t, part, routesBefore, api.OK)
}

func fill[T any](l []T, v T) {
	for i := range l {
		l[i] = v
	}
}
