package ip4_test

import (
	"strings"
	"testing"

	"gossamer/ip4"
)

func TestEnds(t *testing.T) { // P8.1
	for in, want := range map[string]bool{
		"": false, ".": false, "..": false, "1": true, "1.": true, "1..": false, "a.1": true, "a.1.": true, "a.1..": false, "1.a": false, "a.b.7": true, "a.0x": true, "a.0X": true, "a.0xfF": true, "a.0xg": false,
		"09": true, "a.09": true, "a.1a": false, "0x": true, "0x.": true, "x": false, "a.-1": false, "a.+1": false, "a. 1": false, "99999999999999999999999": true, "a.0x1.b": false, ".1": true, "1.2.3.4.5": true, "\u0661": false, "0": true, "a.x1": false, "a.00x1": false,
	} {
		if got := ip4.Ends(in); got != want {
			t.Errorf("Ends(%q) = %v", in, got)
		}
	}
}

func TestParse(t *testing.T) { // P8.2
	for in, want := range map[string]uint32{
		"1.2.3.4": 0x01020304, "0x7f.1": 0x7f000001, "127.0.0.1.": 0x7f000001, "0": 0, "4294967295": 0xffffffff, "0xffffffff": 0xffffffff, "037777777777": 0xffffffff, "1.16777215": 0x01ffffff, "1.2.65535": 0x0102ffff,
		"255.255.255.255": 0xffffffff, "0x": 0, "0xaAfF": 0xaaff, "0X09.0xbBeE": 0x0900bbee, "0x.0X.0x.0x": 0, "010.8": 0x08000008, "1.0x10": 0x01000010, "00": 0, "0000000000000000000000000000377": 255, "0x00000000000000000000ff": 255, "0xAb.0xcD.1": 0xabcd0001, "1.": 1, "00.00.00.01": 1, "256": 256, "1.256": 0x01000100,
	} {
		if got, ok := ip4.Parse(in); got != want || !ok {
			t.Errorf("Parse(%q) = %x, %v", in, got, ok)
		}
	}
	for _, in := range []string{
		"", ".", "..", "1..2", ".1", "1.2.3.4.5", "1.2.3.4..", "1.2.3.256", "1.2.65536", "1.16777216", "4294967296", "256.1", "1.256.1", "1.2.256.4", "08", "09.1", "0x100000000", "040000000000", "1.2.3.0x100", "a", "1.a", "0xg", "1 ", " 1", "-1", "+1", "1_0", "0b1", "0o7", "1e1",
		"99999999999999999999999999999999", "18446744073709551616", "18446744073709551617.1", "0x10000000000000001", "1.2.3.18446744073709551617", "00x1", "x1", "0xx", "0x:", "0x/", "0x@", "0xG", "0x`", "1:", "1/", "0x1:", "07/", "0:",
	} {
		if got, ok := ip4.Parse(in); got != 0 || ok {
			t.Errorf("Parse(%q) = %x, %v", in, got, ok)
		}
	}
	if n, ok := ip4.Parse(strings.Repeat("0", 1<<20)); n != 0 || !ok {
		t.Error("a long row of noughts")
	}
	if _, ok := ip4.Parse(strings.Repeat("1.", 1<<19)); ok {
		t.Error("many parts")
	}
}

func TestShow(t *testing.T) { // P8.2
	for n, want := range map[uint32]string{0: "0.0.0.0", 0x01020304: "1.2.3.4", 0xffffffff: "255.255.255.255", 0x7f000001: "127.0.0.1", 0x0a640064: "10.100.0.100"} {
		if got := ip4.Show(n); got != want {
			t.Errorf("Show(%x) = %s", n, got)
		}
		if got, ok := ip4.Parse(want); got != n || !ok {
			t.Errorf("Parse(%s) = %x, %v", want, got, ok)
		}
	}
}
