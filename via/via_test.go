package via_test

import (
	"math"
	"math/rand"
	"slices"
	"testing"

	"whipcord/api"
	"whipcord/via"
)

// out is a via of a hop that has a port.
func out(hop, port int) api.Via {
	return api.Via{Hop: hop, Port: port}
}

// to is a via of a hop that is reached through another one.
func to(hop, next int) api.Via {
	return api.Via{Hop: hop, Next: next}
}

// chain lists vias of hops, each one reached through the one behind it.
func chain(hops ...int) []api.Via {
	var l []api.Via
	for i := range len(hops) - 1 {
		l = append(l, to(hops[i], hops[i+1]))
	}
	return l
}

// some lists the hops from the first one to the last one.
func some(first, last int) []int {
	var l []int
	for hop := first; hop <= last; hop++ {
		l = append(l, hop)
	}
	return l
}

// many lists n vias of different hops, in no order, of which one in three is reached through another hop.
func many(n int) []api.Via {
	var l []api.Via
	for i := range n {
		v := out(1+i*37%997, 999-i)
		if i%3 == 2 {
			v = to(v.Hop, l[i-1].Hop)
		}
		l = append(l, v)
	}
	return l
}

// modelCheck goes through the errors of a list as the document does.
func modelCheck(l []api.Via) api.Errno {
	if len(l) > 60 {
		return api.ErrSize
	}
	for i, v := range l {
		switch {
		case v.Hop < 1 || v.Hop > 999:
			return api.ErrRange
		case v.Port == 0 && v.Next == 0 || v.Port != 0 && v.Next != 0:
			return api.ErrForm
		case v.Port < 0 || v.Port > 999 || v.Next < 0 || v.Next > 999:
			return api.ErrRange
		case place(l[:i], v.Hop) >= 0:
			return api.ErrTwice
		}
	}
	return api.OK
}

// place is where l has a via of hop, or below 0.
func place(l []api.Via, hop int) int {
	return slices.IndexFunc(l, func(v api.Via) bool { return v.Hop == hop })
}

// modelPort searches a valid list for the hops on a path, whose last one has been reached just now.
func modelPort(l []api.Via, path ...int) (port, deep int, e api.Errno) {
	deep = len(path) - 1
	i := place(l, path[deep])
	switch {
	case i < 0:
		return 0, 0, api.ErrNone
	case slices.Contains(path[:deep], path[deep]):
		return 0, 0, api.ErrLoop
	case deep > 8:
		return 0, 0, api.ErrFull
	case l[i].Next == 0:
		return l[i].Port, deep, api.OK
	}
	return modelPort(l, append(path, l[i].Next)...)
}

// modelAll asks for every number that a hop can have.
func modelAll(l []api.Via) []api.Via {
	var all []api.Via
	for hop := 1; hop <= 999; hop++ {
		if port, _, e := modelPort(l, hop); e == api.OK {
			all = append(all, out(hop, port))
		}
	}
	return all
}

func checkCheck(t *testing.T, l []api.Via, want api.Errno) {
	t.Helper()
	if e := via.Check(l); e != want {
		t.Errorf("Check(%v): %v, want %v", l, e, want)
	}
}

func checkPort(t *testing.T, l []api.Via, hop, wantPort, wantDeep int, wantE api.Errno) {
	t.Helper()
	if port, deep, e := via.Port(l, hop); port != wantPort || deep != wantDeep || e != wantE {
		t.Errorf("Port(%v, %d): %d %d %v, want %d %d %v", l, hop, port, deep, e, wantPort, wantDeep, wantE)
	}
}

func checkAll(t *testing.T, l, want []api.Via, wantE api.Errno) {
	t.Helper()
	if got, e := via.All(l); !slices.Equal(got, want) || e != wantE {
		t.Errorf("All(%v): %v %v, want %v %v", l, got, e, want, wantE)
	}
}

// checkList compares everything about a valid list with the model.
func checkList(t *testing.T, l []api.Via) {
	t.Helper()
	checkCheck(t, l, api.OK)
	for _, hop := range append(hopsOf(l), math.MinInt, -1, 0, 1000, math.MaxInt) {
		port, deep, e := modelPort(l, hop)
		checkPort(t, l, hop, port, deep, e)
	}
	checkAll(t, l, modelAll(l), api.OK)
}

// hopsOf lists the hops of l, and those through which they are reached.
func hopsOf(l []api.Via) []int {
	var hops []int
	for _, v := range l {
		hops = append(hops, v.Hop)
		if v.Next != 0 {
			hops = append(hops, v.Next)
		}
	}
	return hops
}

// checkBad checks that every function has the error of a list that is not valid, whether or not the hop has a via.
func checkBad(t *testing.T, l []api.Via, want api.Errno) {
	t.Helper()
	checkCheck(t, l, want)
	for _, hop := range []int{1, 2, 999, 0, -1, 1000, math.MinInt, math.MaxInt} {
		checkPort(t, l, hop, 0, 0, want)
	}
	checkAll(t, l, nil, want)
}

// edges are numbers in and out of the ranges of the fields.
func edges() []int {
	return []int{math.MinInt, -1, 0, 1, 2, api.MaxHop, api.MaxHop + 1, math.MaxInt}
}

// candidates has every combination of such numbers.
func candidates() []api.Via {
	var l []api.Via
	for _, hop := range edges() {
		for _, port := range edges() {
			for _, next := range edges() {
				l = append(l, api.Via{Hop: hop, Port: port, Next: next})
			}
		}
	}
	return l
}

// P9.1

func TestCheck(t *testing.T) {
	cases := []struct {
		l    []api.Via
		want api.Errno
	}{
		{nil, api.OK},
		{[]api.Via{}, api.OK},
		{[]api.Via{out(1, 1)}, api.OK},
		{[]api.Via{out(999, 999)}, api.OK},
		{[]api.Via{to(1, 999)}, api.OK},
		{[]api.Via{to(999, 1)}, api.OK},
		// Where a hop leads to, and whether it leads to itself, does not matter here.
		{[]api.Via{to(1, 1)}, api.OK},
		{[]api.Via{to(1, 2), to(2, 1)}, api.OK},
		{[]api.Via{to(1, 7), to(2, 7)}, api.OK},
		{chain(some(1, 61)...), api.OK},
		// Ports and hops have numbers of their own, and hops may have the same port.
		{[]api.Via{out(1, 2), out(2, 1), out(3, 3), out(4, 3)}, api.OK},
		{[]api.Via{{}}, api.ErrRange},
		{[]api.Via{out(0, 1)}, api.ErrRange},
		{[]api.Via{out(-1, 1)}, api.ErrRange},
		{[]api.Via{out(1000, 1)}, api.ErrRange},
		{[]api.Via{{Hop: 1}}, api.ErrForm},
		{[]api.Via{{Hop: 1, Port: 1, Next: 1}}, api.ErrForm},
		{[]api.Via{{Hop: 1, Port: 7, Next: 2}, out(2, 7)}, api.ErrForm},
		{[]api.Via{out(1, 1000)}, api.ErrRange},
		{[]api.Via{out(1, -1)}, api.ErrRange},
		{[]api.Via{to(1, 1000)}, api.ErrRange},
		{[]api.Via{to(1, -1)}, api.ErrRange},
		{[]api.Via{out(1, 2), out(1, 2)}, api.ErrTwice},
		{[]api.Via{out(1, 2), out(1, 3)}, api.ErrTwice},
		{[]api.Via{out(1, 2), to(1, 2)}, api.ErrTwice},
		{[]api.Via{to(1, 2), out(2, 3), out(1, 4)}, api.ErrTwice},
		// The hop counts before the form, that before the ranges of the others, and those before the earlier vias.
		{[]api.Via{{Hop: 1000, Port: 1, Next: 1}}, api.ErrRange},
		{[]api.Via{{Hop: 1, Port: -1, Next: -1}}, api.ErrForm},
		{[]api.Via{{Hop: 1, Port: 1000, Next: 1}}, api.ErrForm},
		{[]api.Via{out(1, 2), {Hop: 1}}, api.ErrForm},
		{[]api.Via{out(1, 2), out(1, 1000)}, api.ErrRange},
		// The first via that has an error counts.
		{[]api.Via{out(1, 2), out(1, 2), {Hop: 2}}, api.ErrTwice},
		{[]api.Via{{Hop: 2}, out(1, 2), out(1, 2)}, api.ErrForm},
		{[]api.Via{out(1, 2), {Hop: 2}, out(1, 2)}, api.ErrForm},
		{[]api.Via{out(1, 2), out(2, 1000), {Hop: 3}}, api.ErrRange},
	}
	for _, c := range cases {
		if c.want == api.OK {
			checkList(t, c.l)
		} else {
			checkBad(t, c.l, c.want)
		}
	}
}

// TestCheckOfAllVias has every combination of numbers in one via, and each of these vias before each other one.
func TestCheckOfAllVias(t *testing.T) {
	for _, v := range candidates() {
		checkCheck(t, []api.Via{v}, modelCheck([]api.Via{v}))
		for _, w := range candidates() {
			l := []api.Via{v, w}
			checkCheck(t, l, modelCheck(l))
		}
	}
}

func TestCheckOfSizes(t *testing.T) {
	all := many(2 * api.MaxRoutes)
	for n := range all {
		if n <= 60 {
			checkList(t, all[:n])
		} else {
			checkBad(t, all[:n], api.ErrSize)
		}
	}
	// The size counts before the vias.
	for _, v := range candidates() {
		checkCheck(t, slices.Repeat([]api.Via{v}, 61), api.ErrSize)
	}
	checkBad(t, make([]api.Via, 61), api.ErrSize)
	checkBad(t, make([]api.Via, 60), api.ErrRange)
	checkBad(t, slices.Repeat([]api.Via{out(1, 1)}, 60), api.ErrTwice)
}

// TestOfErrors has a bad via in many places of a list, with and without another one behind it.
func TestOfErrors(t *testing.T) {
	good := many(api.MaxRoutes)
	for _, bad := range candidates() {
		want := modelCheck([]api.Via{bad})
		if want == api.OK {
			continue
		}
		for _, i := range []int{0, 1, 30, api.MaxRoutes - 1} {
			l := slices.Clone(good)
			l[i] = bad
			checkBad(t, l, want)
			if i < 30 {
				l[50] = l[49]
				checkBad(t, l, want)
			}
		}
	}
	for i := range good {
		for j := range i {
			l := slices.Clone(good)
			l[i] = l[j]
			checkCheck(t, l, api.ErrTwice)
			l[i] = out(l[j].Hop, 1)
			checkCheck(t, l, api.ErrTwice)
		}
	}
}

// P9.2

func TestExamples(t *testing.T) {
	checkCheck(t, []api.Via{{Hop: 1}}, api.ErrForm)
	checkPort(t, []api.Via{to(1, 2), out(2, 7)}, 1, 7, 1, api.OK)
	checkAll(t, []api.Via{to(1, 2), to(2, 1), out(3, 4)}, []api.Via{out(3, 4)}, api.OK)
}

func TestPort(t *testing.T) {
	tree := []api.Via{out(5, 50), to(1, 2), to(4, 2), out(2, 20), to(9, 1), to(8, 7), to(6, 6), to(3, 6)}
	cases := []struct {
		l               []api.Via
		hop, port, deep int
		e               api.Errno
	}{
		{tree, 5, 50, 0, api.OK},
		{tree, 2, 20, 0, api.OK},
		{tree, 1, 20, 1, api.OK},
		{tree, 4, 20, 1, api.OK},
		{tree, 9, 20, 2, api.OK},
		{tree, 8, 0, 0, api.ErrNone},
		{tree, 7, 0, 0, api.ErrNone},
		{tree, 6, 0, 0, api.ErrLoop},
		{tree, 3, 0, 0, api.ErrLoop},
		// A port is none of the hops.
		{tree, 20, 0, 0, api.ErrNone},
		{[]api.Via{out(1, 2), out(2, 3)}, 1, 2, 0, api.OK},
		// Every number may be asked for.
		{tree, 0, 0, 0, api.ErrNone},
		{tree, -1, 0, 0, api.ErrNone},
		{tree, 1000, 0, 0, api.ErrNone},
		{tree, math.MaxInt, 0, 0, api.ErrNone},
		{tree, math.MinInt, 0, 0, api.ErrNone},
		{nil, 1, 0, 0, api.ErrNone},
		{[]api.Via{}, 0, 0, 0, api.ErrNone},
		{[]api.Via{to(1, 999), out(999, 999)}, 1, 999, 1, api.OK},
		{[]api.Via{to(999, 1), out(1, 1)}, 999, 1, 1, api.OK},
	}
	for _, c := range cases {
		checkPort(t, c.l, c.hop, c.port, c.deep, c.e)
		checkList(t, c.l)
	}
}

// TestOfDepths has chains of all lengths that end with a port or nowhere, in both orders.
func TestOfDepths(t *testing.T) {
	for n := range 20 {
		missing := chain(some(10, 10+n)...)
		l := append(slices.Clone(missing), out(10+n, 7))
		for range 2 {
			if n <= 8 {
				checkPort(t, l, 10, 7, n, api.OK)
			} else {
				checkPort(t, l, 10, 0, 0, api.ErrFull)
			}
			// The hop without a via is too deep as well, but that it has none counts first.
			if n <= 9 {
				checkPort(t, missing, 10, 0, 0, api.ErrNone)
			} else {
				checkPort(t, missing, 10, 0, 0, api.ErrFull)
			}
			checkList(t, l)
			checkList(t, missing)
			slices.Reverse(l)
			slices.Reverse(missing)
		}
	}
}

// TestOfLoops has loops of all lengths, and hops of all distances before them.
func TestOfLoops(t *testing.T) {
	for around := 1; around <= 12; around++ {
		for before := range 12 {
			hops := some(500, 500+before+around-1)
			l := chain(append(hops, 500+before)...)
			// After this many steps, a hop is reached for the second time.
			if before+around <= 9 {
				checkPort(t, l, 500, 0, 0, api.ErrLoop)
			} else {
				checkPort(t, l, 500, 0, 0, api.ErrFull)
			}
			checkList(t, l)
			checkAll(t, l, nil, api.OK)
			slices.Reverse(l)
			checkList(t, l)
			l = append(l, out(1, 999), to(999, 1))
			checkAll(t, l, []api.Via{out(1, 999), out(999, 999)}, api.OK)
		}
	}
}

// TestOfAllLists has every list in which each of four hops has no via, a port, or any next hop, also one without a via.
func TestOfAllLists(t *testing.T) {
	lists := [][]api.Via{nil}
	for hop := 1; hop <= 4; hop++ {
		for _, l := range lists {
			lists = append(lists, append(slices.Clone(l), out(hop, 10*hop)))
			for next := 1; next <= 5; next++ {
				lists = append(lists, append(slices.Clone(l), to(hop, next)))
			}
		}
	}
	if len(lists) != 7*7*7*7 {
		t.Fatalf("%d lists", len(lists))
	}
	for _, l := range lists {
		checkList(t, l)
		slices.Reverse(l)
		checkList(t, l)
	}
}

// TestOfRandomLists has lists of hops that lead to each other, from those with many loops to those that are deep.
func TestOfRandomLists(t *testing.T) {
	rnd := rand.New(rand.NewSource(91))
	counts := map[api.Errno]int{}
	for range 3000 {
		hops := rnd.Perm(api.MaxHop)[:1+rnd.Intn(api.MaxRoutes)]
		ports, onward := rnd.Intn(20), rnd.Intn(2) == 0
		var l []api.Via
		for i, hop := range hops {
			v := to(1+hop, 1+hops[rnd.Intn(len(hops))])
			if onward && i+1 < len(hops) {
				v.Next = 1 + hops[i+1+rnd.Intn(min(3, len(hops)-i-1))]
			}
			switch rnd.Intn(20) {
			case 0:
				v.Next = 1 + rnd.Intn(api.MaxHop)
			case 1, 2:
				v = out(1+hop, 1+rnd.Intn(api.MaxHop))
			}
			if rnd.Intn(20) < ports {
				v = out(1+hop, 1+rnd.Intn(api.MaxHop))
			}
			l = append(l, v)
		}
		rnd.Shuffle(len(l), func(i, j int) { l[i], l[j] = l[j], l[i] })
		checkList(t, l)
		for _, v := range l {
			_, _, e := modelPort(l, v.Hop)
			counts[e]++
		}
	}
	for _, e := range []api.Errno{api.OK, api.ErrNone, api.ErrLoop, api.ErrFull} {
		if counts[e] < 1000 {
			t.Errorf("only %d hops with %v", counts[e], e)
		}
	}
}

func TestAll(t *testing.T) {
	cases := []struct {
		l, want []api.Via
	}{
		{nil, nil},
		{[]api.Via{}, nil},
		{[]api.Via{to(1, 2)}, nil},
		{[]api.Via{to(1, 1)}, nil},
		// By hop, as numbers: neither by port nor in the order of the list.
		{[]api.Via{out(10, 1), out(9, 2), out(100, 3), out(1, 4)}, []api.Via{out(1, 4), out(9, 2), out(10, 1), out(100, 3)}},
		{[]api.Via{to(3, 2), to(2, 1), out(1, 9)}, []api.Via{out(1, 9), out(2, 9), out(3, 9)}},
		{[]api.Via{out(999, 1), to(1, 999), to(2, 3), to(4, 5), to(5, 4)}, []api.Via{out(1, 1), out(999, 1)}},
		// Only the hops from which it is too far are omitted, and those that lead into a loop or nowhere.
		{append(chain(some(1, 10)...), out(10, 7)), []api.Via{out(2, 7), out(3, 7), out(4, 7), out(5, 7), out(6, 7), out(7, 7), out(8, 7), out(9, 7), out(10, 7)}},
		{append(chain(1, 2, 3, 4, 2), out(5, 6), to(6, 4), to(7, 5), to(8, 9)), []api.Via{out(5, 6), out(7, 6)}},
	}
	for _, c := range cases {
		checkAll(t, c.l, c.want, api.OK)
		checkList(t, c.l)
	}
}

// TestMemory has a list with spare capacity: neither it nor that may change, also not when results are changed.
func TestMemory(t *testing.T) {
	l := many(api.MaxRoutes)
	before := slices.Clone(l)
	via.Check(l[:40])
	via.Port(l[:40], l[39].Hop)
	first, _ := via.All(l[:40])
	want := slices.Clone(first)
	second, _ := via.All(l[:40])
	for i := range first[:cap(first)] {
		first[:cap(first)][i] = out(1, 99)
	}
	if !slices.Equal(l, before) {
		t.Errorf("the argument has changed")
	}
	if !slices.Equal(second, want) || len(second) != 40 {
		t.Errorf("results of two calls share memory, or differ: %v, want %v", second, want)
	}
}
