package addr_test

import (
	"fmt"
	"math"
	"strings"
	"testing"

	"whipcord/addr"
	"whipcord/api"
)

// P1.2

// texts holds addresses with the text that the document gives them.
func texts() map[string]api.Addr {
	return map[string]api.Addr{
		"0.0.0.0":         four(0),
		"0.0.0.1":         four(1),
		"10.0.0.5":        four(10<<24 | 5),
		"1.2.3.4":         four(1<<24 | 2<<16 | 3<<8 | 4),
		"9.10.99.100":     four(9<<24 | 10<<16 | 99<<8 | 100),
		"200.20.2.0":      four(200<<24 | 20<<16 | 2<<8),
		"255.255.255.255": four(maxFour),

		"::":                                six(0, 0),
		"::1":                               six(0, 1),
		"1::":                               six(1<<48, 0),
		"2001:db8::1":                       six(0x20010db8<<32, 1),
		"1:2:3:4:5:6:7:8":                   six(0x0001000200030004, 0x0005000600070008),
		"abcd:ef01:2345:6789:f00:10:a:ffff": six(0xabcdef0123456789, 0x0f000010000affff),
		"ffff:ffff:ffff:ffff:ffff:ffff:ffff:ffff": six(math.MaxUint64, math.MaxUint64),

		// A single zero group stays.
		"1:0:3:4:5:6:7:8": six(0x0001000000030004, 0x0005000600070008),
		"0:2:0:4:0:6:0:8": six(0x0000000200000004, 0x0000000600000008),
		"0:2:3:4:5:6:7:0": six(0x0000000200030004, 0x0005000600070000),
		// Two zero groups do not.
		"1::4:5:6:7:8":  six(0x0001000000000004, 0x0005000600070008),
		"::3:4:5:6:7:8": six(0x0000000000030004, 0x0005000600070008),
		"1:2:3:4:5:6::": six(0x0001000200030004, 0x0005000600000000),
		"1:2:3::6:7:8":  six(0x0001000200030000, 0x0000000600070008),
		// The longest run goes, the first one of several.
		"1::1:0:0:0":    six(1<<48, 1<<48),
		"::1:0:0:1:0:0": six(1<<16, 1<<32),
		"1:0:0:2::3":    six(0x0001000000000002, 3),
		"0:0:1::":       six(1<<16, 0),
		"::4:0:0:0":     six(0, 4<<48),
		"0:1::1:0:0":    six(1<<32, 1<<32),

		// Addresses that hold an IPv4 address have no notation of their own.
		"::102:304":      six(0, 0x01020304),
		"::ffff:102:304": six(0, 0xffff01020304),
	}
}

func TestText(t *testing.T) {
	for want, a := range texts() {
		if s, e := addr.Text(a); s != want || e != api.OK {
			t.Errorf("Text(%v): %q %v, want %q", a, s, e, want)
		}
	}
}

func TestParse(t *testing.T) {
	for s, want := range texts() {
		if a, e := addr.Parse(s); a != want || e != api.OK {
			t.Errorf("Parse(%q): %v %v, want %v", s, a, e, want)
		}
	}
}

func TestParseReadsWhatTextWrites(t *testing.T) {
	for _, a := range valid() {
		s, e := addr.Text(a)
		if e != api.OK {
			t.Errorf("Text(%v): %v", a, e)
		}
		if b, e := addr.Parse(s); b != a || e != api.OK {
			t.Errorf("Parse(%q): %v %v, want %v", s, b, e, a)
		}
	}
}

func TestEveryByte(t *testing.T) {
	for place := range 4 {
		for value := range uint64(256) {
			var b [4]uint64
			b[place] = value
			a := four(b[0]<<24 | b[1]<<16 | b[2]<<8 | b[3])
			want := fmt.Sprintf("%d.%d.%d.%d", b[0], b[1], b[2], b[3])
			checkBothWays(t, a, want)
		}
	}
}

func TestEveryGroup(t *testing.T) {
	for place := range 8 {
		for value := uint64(1); value < 1<<16; value++ {
			g := [8]uint64{1, 1, 1, 1, 1, 1, 1, 1}
			g[place] = value
			checkBothWays(t, ofGroups(g), plain(g[:]))
		}
	}
}

// TestEveryPatternOfZeros takes each of the 256 choices of the groups that are zero.
func TestEveryPatternOfZeros(t *testing.T) {
	for pattern := range 256 {
		g := [8]uint64{0xf, 0xfe, 0xfed, 0xfedc, 0x1000, 0x100, 0x10, 1}
		for i := range g {
			if pattern>>i&1 == 0 {
				g[i] = 0
			}
		}
		checkBothWays(t, ofGroups(g), shortened(g))
		checkOtherRuns(t, g)
	}
}

func checkBothWays(t *testing.T, a api.Addr, want string) {
	t.Helper()
	if s, e := addr.Text(a); s != want || e != api.OK {
		t.Errorf("Text(%v): %q %v, want %q", a, s, e, want)
	}
	if b, e := addr.Parse(want); b != a || e != api.OK {
		t.Errorf("Parse(%q): %v %v, want %v", want, b, e, a)
	}
}

// checkOtherRuns writes the groups with each run of zeros shortened, and with none: only one of these is the text.
func checkOtherRuns(t *testing.T, g [8]uint64) {
	t.Helper()
	want := shortened(g)
	others := []string{plain(g[:])}
	for from := range g {
		for to := from + 1; to <= len(g) && g[to-1] == 0; to++ {
			others = append(others, plain(g[:from])+"::"+plain(g[to:]))
		}
	}
	for _, s := range others {
		if s != want {
			checkRejected(t, s)
		}
	}
}

// shortened tries the runs by length, the longest ones first.
func shortened(g [8]uint64) string {
	for length := 8; length >= 2; length-- {
		for from := 0; from+length <= 8; from++ {
			sum := uint64(0)
			for _, group := range g[from : from+length] {
				sum += group
			}
			if sum == 0 {
				return plain(g[:from]) + "::" + plain(g[from+length:])
			}
		}
	}
	return plain(g[:])
}

func plain(groups []uint64) string {
	var texts []string
	for _, group := range groups {
		texts = append(texts, fmt.Sprintf("%x", group))
	}
	return strings.Join(texts, ":")
}

func ofGroups(g [8]uint64) api.Addr {
	return six(g[0]<<48|g[1]<<32|g[2]<<16|g[3], g[4]<<48|g[5]<<32|g[6]<<16|g[7])
}

func checkRejected(t *testing.T, s string) {
	t.Helper()
	if a, e := addr.Parse(s); a != (api.Addr{}) || e != api.ErrForm {
		t.Errorf("Parse(%q): %v %v, want an ErrForm", s, a, e)
	}
}

func TestParseRejects(t *testing.T) {
	for _, s := range []string{
		"", " ", ".", ":", "0", "x", "...", ":::", "::::", "\x00", "\xff",

		"10.0.0.01", "00.0.0.0", "01.2.3.4", "1.2.3", "1.2.3.4.5", "1.2.3.4.", ".1.2.3.4", "1..2.3", "1.2.3.",
		"1.2.3.256", "256.0.0.0", "1.2.3.1000", "1.2.3.18446744073709551617", "1.2.3.-1", "1.2.3.+4", "1.2.3.a",
		"0x1.2.3.4", "1.2.3.0x4", "1.2.3.4 ", " 1.2.3.4", "1.2. 3.4", "1.2.3.4\n", "1.2.3.4\x00", "1.2.3.1_0",
		"1.2.3.4/32", "1,2,3,4", "16909060", "1.2.3.\u0664",

		"0:0:0:0:0:0:0:0", "1:2:3:4:5:6:7", "1:2:3:4:5:6:7:8:9", "1:2:3:4:5:6:7:", ":2:3:4:5:6:7:8",
		"1:2:3:4:5:6:7:8:", ":1:2:3:4:5:6:7:8", "1:2:3:4:5:6:7:8::", "::1:2:3:4:5:6:7:8",
		"::1:2:3:4:5:6:7:8:9", "1:2:3:4:5:6:7:8:9::", "1:2:3:4:5::6:7:8:9",
		"1:2:3:4::5:6:7:8", "1:2:3::4:5:6:7:8", "1:2:3:4:5:6:7::", "::2:3:4:5:6:7:8",
		"1:2:3:4:5:6:7:10000", "1:2:3:4:5:6:7:00008", "1:2:3:4:5:6:7:08", "::01", "::0001", "::A", "::aB",
		"::g", "::-1", "::+1", "::0x1", "::1_0", ":::1", "1:::", "1::2::3", "::1::", "1:::2", ":1::", "::1:", "1::2:",
		"1::2:0:0:0:3", "::0", "0::", "0::0", "1::0", "0::1", "1::0:2", "1:0::2", "::1:0:0:0:0",
		"::1%eth0", "[::1]", "::1/128", " ::1", "::1 ", "::1\n",
		"::1.2.3.4", "::ffff:1.2.3.4", "1.2.3.4::", "1:2:3:4:5:6:1.2.3.4", "1.2.3.4:5", "1.2:3.4",
	} {
		checkRejected(t, s)
	}
}

// TestParseOfShortStrings looks for any string that is accepted although it is no text of an address.
func TestParseOfShortStrings(t *testing.T) {
	for _, alphabet := range []string{":01aA", ".01+", ":.12"} {
		checkStrings(t, alphabet, "", 8)
	}
}

func checkStrings(t *testing.T, alphabet, s string, more int) {
	a, e := addr.Parse(s)
	if e == api.OK {
		if text, e := addr.Text(a); text != s || e != api.OK {
			t.Errorf("Parse(%q): %v, of which the text is %q %v", s, a, text, e)
		}
	} else if a != (api.Addr{}) || e != api.ErrForm {
		t.Errorf("Parse(%q): %v %v", s, a, e)
	}
	if more == 0 {
		return
	}
	for i := range len(alphabet) {
		checkStrings(t, alphabet, s+alphabet[i:i+1], more-1)
	}
}

func TestParseOfLongStrings(t *testing.T) {
	for _, piece := range []string{"1", "0", "a", ":", ".", "0.", "1:", "\x00", "\u00e9"} {
		long := strings.Repeat(piece, api.MaxText+1)
		checkRejected(t, long[:api.MaxText])
		for _, n := range []int{api.MaxText + 1, len(long)} {
			if a, e := addr.Parse(long[:n]); a != (api.Addr{}) || e != api.ErrSize {
				t.Errorf("Parse of %d bytes: %v %v, want an ErrSize", n, a, e)
			}
		}
	}
	groups := strings.Repeat("1:", 290) + "1"
	checkRejected(t, groups)
	checkRejected(t, "::"+groups)
	checkRejected(t, groups+"::")
	// Bytes count, whatever the string begins with.
	text := "1.2.3.4"
	checkRejected(t, text+strings.Repeat(" ", api.MaxText-len(text)))
	if _, e := addr.Parse(text + strings.Repeat(" ", api.MaxText-len(text)+1)); e != api.ErrSize {
		t.Errorf("Parse of an address with many spaces: %v, want an ErrSize", e)
	}
}
