package jtok_test

import (
	"encoding/json"
	"slices"
	"strings"
	"testing"

	"gossamer/api"
	"gossamer/jtok"
)

func TestTokens(t *testing.T) { // P5.1
	in := " {\t\"a\" :\n-1.5e+3 , [true,false]\r,nullnull}] "
	want := []api.Tok{
		{Kind: api.TokOpen, At: 1}, {Kind: api.TokString, At: 3, Text: "a"}, {Kind: api.TokColon, At: 7}, {Kind: api.TokNumber, At: 9, Text: "-1.5e+3"},
		{Kind: api.TokComma, At: 17}, {Kind: api.TokFirst, At: 19}, {Kind: api.TokTrue, At: 20}, {Kind: api.TokComma, At: 24}, {Kind: api.TokFalse, At: 25},
		{Kind: api.TokLast, At: 30}, {Kind: api.TokComma, At: 32}, {Kind: api.TokNull, At: 33}, {Kind: api.TokNull, At: 37}, {Kind: api.TokClose, At: 41}, {Kind: api.TokLast, At: 42},
	}
	got, at, code := jtok.Tokens([]byte(in))
	if !slices.Equal(got, want) || at != len(in) || code != api.OK {
		t.Errorf("Tokens = %v, %d, %d", got, at, code)
	}
	if got, _, _ := jtok.Tokens([]byte("1:2,3}4{5]6[7\n8")); len(got) != 14 {
		t.Errorf("signs between numbers: %v", got)
	}
	for _, in := range []string{"", " \t\n\r"} {
		if got, at, code := jtok.Tokens([]byte(in)); len(got) != 0 || at != len(in) || code != api.OK {
			t.Errorf("Tokens(%q) = %v, %d, %d", in, got, at, code)
		}
	}
}

func TestNumbersGoAsFarAsTheyGo(t *testing.T) { // P5.1
	for in, want := range map[string][]string{
		"0": {"0"}, "01": {"0", "1"}, "9": {"9"}, "-9.9e9": {"-9.9e9"}, "1.0203e4": {"1.0203e4"}, "-0": {"-0"}, "-01": {"-0", "1"}, "00.5": {"0", "0.5"}, "120": {"120"}, "1.50": {"1.50"}, "1e5": {"1e5"}, "1E-07": {"1E-07"},
		"0e+0": {"0e+0"}, "1-2": {"1", "-2"}, "1e5-1": {"1e5", "-1"}, "0.0": {"0.0"}, "-1.0E1": {"-1.0E1"},
	} {
		toks, at, code := jtok.Tokens([]byte(in))
		var got []string
		for _, k := range toks {
			if k.Kind != api.TokNumber {
				t.Errorf("Tokens(%q): kind %d", in, k.Kind)
			}
			got = append(got, k.Text)
		}
		if !slices.Equal(got, want) || at != len(in) || code != api.OK {
			t.Errorf("Tokens(%q) = %q, %d, %d", in, got, at, code)
		}
	}
}

func TestStrings(t *testing.T) { // P5.1
	for in, want := range map[string]string{
		``: "", `abc`: "abc", `\"\\\/\b\f\n\r\t`: "\"\\/\b\f\n\r\t", `\u0041\u00e9\u20AC`: "A\u00e9\u20ac", "\u20ac\U0001f600\x7f": "\u20ac\U0001f600\x7f",
		`\ud83d\ude00`: "\U0001f600", `\uD83D\uDE00x`: "\U0001f600x", `\ud83d`: "\ufffd", `\ude00`: "\ufffd", `\ude00\ud83d`: "\ufffd\ufffd", `\ud83dx\ude00`: "\ufffdx\ufffd",
		`\ud83d\ud83d\ude00`: "\ufffd\U0001f600", `\ud83d\n`: "\ufffd\n", `\ud83d\u0041`: "\ufffdA", `\ud800\udc00\udbff\udfff`: "\U00010000\U0010ffff", `\ud83d\ue000`: "\ufffd\ue000",
		`\u0000`: "\x00", ` a b `: " a b ", `\udc00\udc00`: "\ufffd\ufffd", `\udbff\udc00`: "\U0010fc00", `\ud7ff\udc00`: "\ud7ff\ufffd", `\ud800\udfff`: "\U000103ff", `\uFFFF\uABCD\uabcd\uffff\u0F9f`: "\uffff\uabcd\uabcd\uffff\u0f9f", `!#[]^~`: "!#[]^~", "x\u2028y": "x\u2028y", `\ud83d\ude00\ude00`: "\U0001f600\ufffd", `\udbff\udbff`: "\ufffd\ufffd", `a\nb\nc`: "a\nb\nc", "/": "/",
	} {
		b := []byte(`"` + in + `"`)
		got, at, code := jtok.Tokens(b)
		if code != api.OK || at != len(b) || !slices.Equal(got, []api.Tok{{Kind: api.TokString, Text: want}}) {
			t.Errorf("Tokens(%s) = %v, %d, %d", b, got, at, code)
		}
	}
}

func TestFaults(t *testing.T) { // P5.2
	for _, c := range []struct {
		in   string
		at   int
		code api.Errno
	}{
		{"tru ", 3, api.ErrJSON}, {"tru", 3, api.ErrJSON}, {"t\xff", 1, api.ErrUTF}, {"nullx", 4, api.ErrJSON}, {"fals\u00e9", 4, api.ErrJSON}, {"nul\x80", 3, api.ErrUTF}, {"True", 0, api.ErrJSON},
		{"-", 1, api.ErrJSON}, {"-a", 1, api.ErrJSON}, {"1.", 2, api.ErrJSON}, {"1.e", 2, api.ErrJSON}, {"1e", 2, api.ErrJSON}, {"1e+", 3, api.ErrJSON}, {"1e-x", 3, api.ErrJSON}, {"-\xc3", 1, api.ErrUTF}, {"1.\xe2\x82", 2, api.ErrUTF},
		{".5", 0, api.ErrJSON}, {"+1", 0, api.ErrJSON}, {"1e+\xf0\x90", 3, api.ErrUTF}, {"1x", 1, api.ErrJSON}, {"0x1", 1, api.ErrJSON},
		{`"abc`, 4, api.ErrJSON}, {`"`, 1, api.ErrJSON}, {`"a\`, 3, api.ErrJSON}, {`"a\x"`, 3, api.ErrJSON}, {`"\u12g4"`, 5, api.ErrJSON}, {`"\u12`, 5, api.ErrJSON}, {`"\u"`, 3, api.ErrJSON}, {`"\U0041"`, 2, api.ErrJSON},
		{"\"a\nb\"", 2, api.ErrJSON}, {"\"\x80\"", 1, api.ErrUTF}, {"\"\xc2\"", 1, api.ErrUTF}, {`"\u00:0"`, 5, api.ErrJSON}, {`"\u00/0"`, 5, api.ErrJSON}, {`"\u00G0"`, 5, api.ErrJSON}, {`"\u00@0"`, 5, api.ErrJSON}, {`"\u00` + "`" + `0"`, 5, api.ErrJSON}, {"/1", 0, api.ErrJSON}, {"1/", 1, api.ErrJSON}, {"\"\x1f\"", 1, api.ErrJSON}, {"\"\x00\"", 1, api.ErrJSON}, {"\"a\xe2\x82\"", 2, api.ErrUTF}, {"\"\\\xff\"", 2, api.ErrUTF}, {"\"\\u\x80\"", 3, api.ErrUTF}, {"\"\\\u20ac\"", 2, api.ErrJSON}, {"\"\xed\xa0\x80\"", 1, api.ErrUTF},
		{"\"\\u00\u20ac\"", 5, api.ErrJSON}, {`"\ud83d\u"`, 9, api.ErrJSON}, {`"\ud83d\uZ`, 9, api.ErrJSON}, {`"\ud83d\`, 8, api.ErrJSON}, {`"\ud83d\u12`, 11, api.ErrJSON}, {"\"\\ud83d\\u0\xff", 10, api.ErrUTF},
		{"[1,\xff]", 3, api.ErrUTF}, {"\u20ac", 0, api.ErrJSON}, {"\ufeff1", 0, api.ErrJSON}, {"1 \x0b", 2, api.ErrJSON}, {"1\x00", 1, api.ErrJSON}, {"'a'", 0, api.ErrJSON}, {"//", 0, api.ErrJSON}, {"[} \x80", 3, api.ErrUTF}, {"\u00a0", 0, api.ErrJSON},
	} {
		if got, at, code := jtok.Tokens([]byte(c.in)); len(got) != 0 || at != c.at || code != c.code {
			t.Errorf("Tokens(%q) = %v, %d, %d", c.in, got, at, code)
		}
	}
}

func TestIsNumber(t *testing.T) { // P5.2
	for in, want := range map[string]bool{
		"0": true, "-0": true, "10": true, "1.5": true, "-1.5e+10": true, "1E5": true, "0.0e-0": true, "9007199254740993": true,
		"": false, "-": false, "01": false, "1.": false, ".1": false, "1e": false, "1e+": false, "+1": false, " 1": false, "1 ": false, "1,": false, "0x0": false, "1a": false, "NaN": false, "\x00": false, "1\x00": false, "1e5.5": false, "--1": false, "\u0661": false,
	} {
		if got := jtok.IsNumber(in); got != want {
			t.Errorf("IsNumber(%q) = %v", in, got)
		}
	}
}

func TestLikeTheLibrary(t *testing.T) { // P5.1: strings and numbers by a second reader
	parts := []string{`\u`, `d83d`, `de00`, `\ud83d`, `\ude00`, `\n`, `\`, `0`, `1`, `.`, `e`, `-`, `a`, `"`, "\u20ac", "\U0001f600", `00e9`}
	var try func(s string, deep int)
	try = func(s string, deep int) {
		text := `"` + s + `"`
		toks, _, code := jtok.Tokens([]byte(text))
		var want string
		err := json.Unmarshal([]byte(text), &want)
		if got := code == api.OK && len(toks) == 1; got != (err == nil) || got && toks[0].Text != want {
			t.Errorf("%s: %v, %d, library: %q, %v", text, toks, code, want, err)
		}
		if got := jtok.IsNumber(s); got != (s != "" && strings.ContainsAny(s[:1], "-0123456789") && json.Valid([]byte(s))) {
			t.Errorf("IsNumber(%s) = %v", s, got)
		}
		if deep > 0 {
			for _, p := range parts {
				try(s+p, deep-1)
			}
		}
	}
	try("", 4)
}

func TestMegabyte(t *testing.T) {
	for _, in := range []string{strings.Repeat("[", 1<<20), `"` + strings.Repeat(`\u20ac`, 1<<17) + `"`, strings.Repeat("1", 1<<20)} {
		if _, at, code := jtok.Tokens([]byte(in)); at != len(in) || code != api.OK {
			t.Errorf("Tokens of a megabyte: %d, %d", at, code)
		}
	}
}
