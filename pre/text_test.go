package pre_test

import (
	"math"
	"strings"
	"testing"

	"whipcord/addr"
	"whipcord/api"
	"whipcord/pre"
)

// P2.2

// texts holds prefixes with the text that the document gives them.
func texts() map[string]api.Prefix {
	return map[string]api.Prefix{
		"0.0.0.0/0":          prefix(four(0), 0),
		"0.0.0.0/32":         prefix(four(0), 32),
		"10.0.0.0/8":         prefix(four(10<<24), 8),
		"10.0.0.0/9":         prefix(four(10<<24), 9),
		"10.0.0.0/10":        prefix(four(10<<24), 10),
		"10.1.0.0/16":        prefix(four(10<<24|1<<16), 16),
		"128.0.0.0/1":        prefix(four(1<<31), 1),
		"255.255.255.254/31": prefix(four(maxFour-1), 31),
		"255.255.255.255/32": prefix(four(maxFour), 32),

		"::/0":                     prefix(six(0, 0), 0),
		"::/99":                    prefix(six(0, 0), 99),
		"::/100":                   prefix(six(0, 0), 100),
		"::1/128":                  prefix(six(0, 1), 128),
		"8000::/1":                 prefix(six(1<<63, 0), 1),
		"2001:db8::/32":            prefix(six(0x20010db8<<32, 0), 32),
		"0:0:0:1::/64":             prefix(six(1, 0), 64),
		"::8000:0:0:0/65":          prefix(six(0, 1<<63), 65),
		"1:2:3:4:5:6:7:8/125":      prefix(six(0x0001000200030004, 0x0005000600070008), 125),
		"::ffff:102:304/128":       prefix(six(0, 0xffff01020304), 128),
		"ffff:ffff:ffff:fffe::/63": prefix(six(math.MaxUint64-1, 0), 63),
		"ffff:ffff:ffff:ffff:ffff:ffff:ffff:ffff/128": prefix(six(math.MaxUint64, math.MaxUint64), 128),
	}
}

func TestTextAndParse(t *testing.T) {
	for s, p := range texts() {
		checkText(t, p, s, api.OK)
		checkParse(t, s, p, api.OK)
	}
}

// TestTextOfEveryLength writes the length digit by digit, so that it does not lean on what Text leans on.
func TestTextOfEveryLength(t *testing.T) {
	for _, p := range prefixes() {
		want, _ := addr.Text(p.Addr)
		want += "/"
		if p.Len >= 100 {
			want += string(rune('0' + p.Len/100))
		}
		if p.Len >= 10 {
			want += string(rune('0' + p.Len/10%10))
		}
		want += string(rune('0' + p.Len%10))
		checkText(t, p, want, api.OK)
		checkParse(t, want, p, api.OK)
	}
}

func TestParseRejects(t *testing.T) {
	for _, s := range []string{
		"", " ", "/", "//", "/8", "8", "x", "x/8", "\x00", "\xff/8",

		// No length, or one that is written in another way.
		"10.0.0.0", "10.0.0.0/", "10.0.0.0/08", "10.0.0.0/008", "10.0.0.0/+8", "10.0.0.0/-8", "10.0.0.0/-0", "10.0.0.0/+0",
		"0.0.0.0/00", "0.0.0.0/-0", "0.0.0.0/+0", "10.0.0.0/0x8", "10.0.0.0/1_0", "10.0.0.0/8.0", "10.0.0.0/a",
		"10.0.0.0/8 ", "10.0.0.0/ 8", "10.0.0.0 /8", " 10.0.0.0/8", "10.0.0.0/8\n", "10.0.0.0/8\x00", "10.0.0.0/\u0668",
		"10.0.0.0//8", "10.0.0.0/8/", "10.0.0.0/8/8", "/10.0.0.0/8", "10.0.0.0\\8", "10.0.0.0:8", "10.0.0.0/255.0.0.0",
		"::", "::/", "::/00", "::/+0", "::/-0", "::/064", "::/0x40", "::/4f", "::/64/64", "::/::",

		// No such length.
		"0.0.0.0/33", "0.0.0.0/-1", "0.0.0.0/128", "0.0.0.0/100", "0.0.0.0/4294967296", "0.0.0.0/4294967304",
		"0.0.0.0/9223372036854775807", "0.0.0.0/9223372036854775808", "0.0.0.0/18446744073709551616",
		"0.0.0.0/-9223372036854775808", "0.0.0.0/-9223372036854775809",
		"::/129", "::/-1", "::/256", "::/1000", "::/18446744073709551616",

		// Bits behind the end.
		"10.0.0.1/8", "10.1.0.0/8", "10.0.0.0/6", "0.0.0.1/31", "0.0.0.1/0", "128.0.0.0/0", "255.255.255.255/31",
		"::1/127", "::1/0", "8000::/0", "2001:db8::/28", "::8000:0:0:0/64", "0:0:0:1::/63",

		// No such address, or one that is written in another way.
		"10/8", "10.0/8", "10.0.0/8", "10.0.0.0.0/8", "010.0.0.0/8", "10.0.0.00/8", "256.0.0.0/8", "10.0.0.0./8", "a.0.0.0/8",
		"0:0:0:0:0:0:0:0/0", "2001:DB8::/32", "2001:0db8::/32", "2001:db8:0::/32", "1::2::/128", "::0/0", "::ffff:1.2.3.4/128",
		"[::]/0", "::%1/0", "10000::/16", ":/0", ":::/0",
	} {
		checkParse(t, s, api.Prefix{}, api.ErrForm)
	}
}

// TestParseOfShortStrings looks for any string that is accepted although it is no text of a prefix.
func TestParseOfShortStrings(t *testing.T) {
	for start, alphabet := range map[string]string{"": ":/01", "0.0.0.": "/0123+-", "128.0.0.0/": "/01239+-_ "} {
		checkStrings(t, start, alphabet, 6)
	}
}

func checkStrings(t *testing.T, s, alphabet string, more int) {
	p, e := pre.Parse(s)
	if e == api.OK {
		checkText(t, p, s, api.OK)
	} else if p != (api.Prefix{}) || e != api.ErrForm {
		t.Errorf("Parse(%q): %v %v", s, p, e)
	}
	if more == 0 {
		return
	}
	for i := range len(alphabet) {
		checkStrings(t, s+alphabet[i:i+1], alphabet, more-1)
	}
}

func TestParseOfLongStrings(t *testing.T) {
	for _, start := range []string{"", "10.0.0.0/8", "10.0.0.0/", "::/0", "/", "1.2.3.4"} {
		for _, piece := range []string{"0", "8", "/", ".", ":", " ", "\x00", "\u00e9"} {
			long := start + strings.Repeat(piece, api.MaxText+1)
			checkParse(t, long[:api.MaxText], api.Prefix{}, api.ErrForm)
			checkParse(t, long[:api.MaxText+1], api.Prefix{}, api.ErrSize)
			checkParse(t, long, api.Prefix{}, api.ErrSize)
		}
	}
}

func checkText(t *testing.T, p api.Prefix, want string, wantE api.Errno) {
	t.Helper()
	if s, e := pre.Text(p); s != want || e != wantE {
		t.Errorf("Text(%v): %q %v, want %q %v", p, s, e, want, wantE)
	}
}

func checkParse(t *testing.T, s string, want api.Prefix, wantE api.Errno) {
	t.Helper()
	if p, e := pre.Parse(s); p != want || e != wantE {
		t.Errorf("Parse(%q): %v %v, want %v %v", s, p, e, want, wantE)
	}
}
