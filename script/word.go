package script

import (
	"strings"

	"gossamer/ascii"
)

// Word tells a text so that it has no blank, and no line feed.
func Word(s string) string {
	b := append(make([]byte, 0, 1+len(s)), '=')
	for i := range len(s) {
		c := s[i]
		if plain(c) {
			b = append(b, c)
		} else {
			b = append(b, '%', ascii.Upper[c>>4], ascii.Upper[c&15])
		}
	}
	return string(b)
}

// Read tells the text of a word, if w is what Word tells of one.
func Read(w string) (string, bool) {
	if w == "" || w[0] != '=' {
		return "", false
	}
	b := make([]byte, 0, len(w))
	for i := 1; i < len(w); i++ {
		if plain(w[i]) {
			b = append(b, w[i])
			continue
		}
		if w[i] != '%' || i+2 >= len(w) {
			return "", false
		}
		high, low := strings.IndexByte(ascii.Upper, w[i+1]), strings.IndexByte(ascii.Upper, w[i+2])
		if high < 0 || low < 0 || plain(byte(high<<4|low)) {
			return "", false
		}
		b = append(b, byte(high<<4|low))
		i += 2
	}
	return string(b), true
}

// plain tells whether a byte stands for itself.
func plain(c byte) bool {
	return ascii.Letter(c) || ascii.Digit(c) || c == '-' || c == '.' || c == '_' || c == '~'
}
