package host_test

import (
	"strings"
	"testing"

	"gossamer/api"
	"gossamer/host"
)

func domain(s string) api.Host { return api.Host{Kind: api.Domain, S: s} }
func opaque(s string) api.Host { return api.Host{Kind: api.Opaque, S: s} }
func four(n uint32) api.Host   { return api.Host{Kind: api.IPv4, N: n} }
func six(p ...uint16) api.Host {
	h := api.Host{Kind: api.IPv6}
	copy(h.P[:], p)
	return h
}

func TestSpecial(t *testing.T) { // P10.1, P10.2
	for in, want := range map[string]api.Host{
		"example.org": domain("example.org"), "EX%41mple.org": domain("example.org"), "%65%58": domain("ex"), "a.": domain("a."), ".": domain("."), "..": domain(".."), "a_b-c~!$&'()*+,;=\"`{}": domain("a_b-c~!$&'()*+,;=\"`{}"),
		"xn-": domain("xn-"), "axn--b": domain("axn--b"), "1.2.3.4": four(0x01020304), "0x7F.1": four(0x7f000001), "%31": four(1), "1.2.3.4.": four(0x01020304), "7..": domain("7.."), "1.a": domain("1.a"), "a.0xg": domain("a.0xg"), "AZ.az": domain("az.az"), "a.xn-b": domain("a.xn-b"), "xn-.b": domain("xn-.b"), "axn--": domain("axn--"), "0X": four(0),
		"[::1]": six(0, 0, 0, 0, 0, 0, 0, 1), "[1:2::3.4.5.6]": six(1, 2, 0, 0, 0, 0, 0x304, 0x506),
	} {
		if got, code := host.Parse(in, true); got != want || code != api.OK {
			t.Errorf("Parse(%q, true) = %v, %d", in, got, code)
		}
	}
	for in, want := range map[string]api.Errno{
		"\u00e9": api.ErrHost, "a\xff": api.ErrHost, "%e9": api.ErrHost, "%80": api.ErrHost, "xn--a": api.ErrHost, "a.XN--b": api.ErrHost, "a.%78n--": api.ErrHost, "a b\u00e9": api.ErrHost, "xn--|": api.ErrHost, "x%6E--a.1": api.ErrHost, "\u00e9.1": api.ErrHost, "a[\u00e9": api.ErrHost,
		"": api.ErrURL, "a.b.7": api.ErrURL, "256.256.256.256": api.ErrURL, "1.2.3.4.5": api.ErrURL, "a.0x": api.ErrURL, "08": api.ErrURL, "a.09": api.ErrURL, "[": api.ErrURL, "[]": api.ErrURL, "[::1": api.ErrURL, "[::1]a": api.ErrURL, "[::g]": api.ErrURL, "[\u00e9]": api.ErrURL, "[1.2.3.4]": api.ErrURL,
		"%": api.ErrURL, "a%zz": api.ErrURL, "%25": api.ErrURL, "%7f": api.ErrURL, "%00": api.ErrURL, "a%20b": api.ErrURL, "%5B::1%5D": api.ErrURL, "a%2Fb": api.ErrURL, "::1": api.ErrURL,
	} {
		if got, code := host.Parse(in, true); got != (api.Host{}) || code != want {
			t.Errorf("Parse(%q, true) = %v, %d", in, got, code)
		}
	}
}

func TestOpaque(t *testing.T) { // P10.1, P10.2
	for in, want := range map[string]api.Host{
		"": {Kind: api.Empty}, "ExAmple": opaque("ExAmple"), "a%20%zz": opaque("a%20%zz"), "\u00e9": opaque("%C3%A9"), "\xff": opaque("%EF%BF%BD"), "a\x01\x7f": opaque("a%01%7F"), "1.2.3.4": opaque("1.2.3.4"), "xn--a": opaque("xn--a"), "a.b.7": opaque("a.b.7"), "\"'`{}": opaque("\"'`{}"), "%00": opaque("%00"),
		"[1::]": six(1),
	} {
		if got, code := host.Parse(in, false); got != want || code != api.OK {
			t.Errorf("Parse(%q, false) = %v, %d", in, got, code)
		}
	}
	for _, in := range []string{"[", "[::1", "[::1]x", "[x]", "[]"} {
		if got, code := host.Parse(in, false); got != (api.Host{}) || code != api.ErrURL {
			t.Errorf("Parse(%q, false) = %v, %d", in, got, code)
		}
	}
}

func TestBytesThatNoHostHas(t *testing.T) { // P10.1
	for c := range 0x80 {
		in := "a" + string(rune(c)) + "b"
		never := strings.ContainsRune("\x00\t\n\r #/:<>?@[\\]^|", rune(c))
		if _, code := host.Parse(in, false); (code == api.ErrURL) != never {
			t.Errorf("Parse(%q, false): %d", in, code)
		}
		never = never || c < 0x20 || c == '%' || c == 0x7f
		if _, code := host.Parse(in, true); (code == api.ErrURL) != never {
			t.Errorf("Parse(%q, true): %d", in, code)
		}
	}
}

func TestShowAndMay(t *testing.T) { // P10.3
	for _, c := range []struct {
		h            api.Host
		text         string
		special, not bool
	}{
		{domain("a.b"), "a.b", true, false}, {domain("A"), "A", false, false}, {domain(""), "", false, false}, {domain("1"), "1", false, false}, {domain("\u00e9"), "\u00e9", false, false}, {domain("a/b"), "a/b", false, false},
		{four(0x01020304), "1.2.3.4", true, false}, {api.Host{Kind: api.IPv4, N: 1, S: "x"}, "0.0.0.1", false, false}, {six(1, 2), "[1:2::]", true, true}, {api.Host{Kind: api.IPv6, N: 1}, "[::]", false, false},
		{opaque("a"), "a", false, true}, {opaque("%C3%A9"), "%C3%A9", false, true}, {opaque("\u00e9"), "\u00e9", false, false}, {opaque(""), "", false, false}, {opaque("[::1]"), "[::1]", false, false}, {opaque("a b"), "a b", false, false},
		{api.Host{Kind: api.Empty}, "", false, true}, {api.Host{}, "", false, false}, {api.Host{S: "a"}, "", false, false}, {api.Host{Kind: 9, S: "a"}, "", false, false}, {api.Host{Kind: api.Empty, S: "a"}, "", false, false}, {api.Host{Kind: api.Domain, S: "a", N: 1}, "a", false, false},
	} {
		if got := host.Show(c.h); got != c.text {
			t.Errorf("Show(%v) = %q", c.h, got)
		}
		if host.May(c.h, true) != c.special || host.May(c.h, false) != c.not {
			t.Errorf("May(%v) = %v, %v", c.h, host.May(c.h, true), host.May(c.h, false))
		}
	}
}
