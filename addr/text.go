package addr

import (
	"strconv"
	"strings"

	"whipcord/api"
)

const (
	fourParts = 4
	sixGroups = 8
	groupBits = 16

	// minRun is the length from which on a run of zero groups is shortened.
	minRun = 2
)

// Text returns the only text of a that Parse accepts.
func Text(a api.Addr) (string, api.Errno) {
	if !May(a) {
		return "", api.ErrForm
	}
	if a.Six {
		return sixText(a), api.OK
	}
	return fourText(a), api.OK
}

func fourText(a api.Addr) string {
	parts := make([]string, fourParts)
	for i := range parts {
		part := a.Lo >> (8 * (fourParts - 1 - i)) & 0xff
		parts[i] = strconv.FormatUint(part, 10)
	}
	return strings.Join(parts, ".")
}

func sixText(a api.Addr) string {
	groups := split(a)
	from, to := longestZeros(groups)
	if to-from < minRun {
		return groupsText(groups[:])
	}
	return groupsText(groups[:from]) + "::" + groupsText(groups[to:])
}

// split returns the groups of an IPv6 address, the most significant one first.
func split(a api.Addr) [sixGroups]uint64 {
	var groups [sixGroups]uint64
	for i := range groups {
		word, place := a.Hi, i
		if i >= sixGroups/2 {
			word, place = a.Lo, i-sixGroups/2
		}
		groups[i] = word >> (groupBits * (sixGroups/2 - 1 - place)) & 0xffff
	}
	return groups
}

// joined is the IPv6 address with these groups.
func joined(groups [sixGroups]uint64) api.Addr {
	a := api.Addr{Six: true}
	for i := range sixGroups / 2 {
		a.Hi = a.Hi<<groupBits | groups[i]
		a.Lo = a.Lo<<groupBits | groups[i+sixGroups/2]
	}
	return a
}

// longestZeros returns where the first one of the longest runs of zero groups begins and where it has ended.
func longestZeros(groups [sixGroups]uint64) (from, to int) {
	start := 0
	for i, group := range groups {
		if group != 0 {
			start = i + 1
			continue
		}
		if i+1-start > to-from {
			from, to = start, i+1
		}
	}
	return from, to
}

func groupsText(groups []uint64) string {
	texts := make([]string, len(groups))
	for i, group := range groups {
		texts[i] = strconv.FormatUint(group, 16)
	}
	return strings.Join(texts, ":")
}

// Parse returns the address for which Text returns s.
func Parse(s string) (api.Addr, api.Errno) {
	if len(s) > api.MaxText {
		return api.Addr{}, api.ErrSize
	}
	a, ok := read(s)
	if !ok {
		return api.Addr{}, api.ErrForm
	}
	// The readers accept other notations of an address too (leading zeros, capitals, other runs): Text alone decides which one counts.
	if text, e := Text(a); e != api.OK || text != s {
		return api.Addr{}, api.ErrForm
	}
	return a, api.OK
}

func read(s string) (api.Addr, bool) {
	if strings.Contains(s, ":") {
		return readSix(s)
	}
	return readFour(s)
}

func readFour(s string) (api.Addr, bool) {
	parts, ok := readNumbers(s, ".", 10, 8)
	if !ok || len(parts) != fourParts {
		return api.Addr{}, false
	}
	var a api.Addr
	for _, part := range parts {
		a.Lo = a.Lo<<8 | part
	}
	return a, true
}

func readSix(s string) (api.Addr, bool) {
	head, tail, short := strings.Cut(s, "::")
	left, ok := readGroups(head)
	if !ok {
		return api.Addr{}, false
	}
	right, ok := readGroups(tail)
	if !ok {
		return api.Addr{}, false
	}
	n := len(left) + len(right)
	if n > sixGroups || !short && n < sixGroups {
		return api.Addr{}, false
	}
	var groups [sixGroups]uint64
	copy(groups[:], left)
	copy(groups[sixGroups-len(right):], right)
	return joined(groups), true
}

// readGroups reads the groups on one side of two colons, where there may be none.
func readGroups(s string) ([]uint64, bool) {
	if s == "" {
		return nil, true
	}
	return readNumbers(s, ":", 16, groupBits)
}

// readNumbers reads numbers of at most size bits, separated by sep.
func readNumbers(s, sep string, base, size int) ([]uint64, bool) {
	var numbers []uint64
	for _, piece := range strings.Split(s, sep) {
		number, err := strconv.ParseUint(piece, base, size)
		if err != nil {
			return nil, false
		}
		numbers = append(numbers, number)
	}
	return numbers, true
}
