package script

const digits = "0123456789ABCDEF"

// Word tells a text so that it has no blank, and no line feed.
func Word(s string) string {
	b := append(make([]byte, 0, 1+len(s)), '=')
	for i := range len(s) {
		c := s[i]
		if plain(c) {
			b = append(b, c)
		} else {
			b = append(b, '%', digits[c>>4], digits[c&15])
		}
	}
	return string(b)
}

// Read tells the text of a word, if w is what Word tells of one.
func Read(w string) (string, bool) {
	if w == "" || w[0] != '=' {
		return "", false
	}
	b := make([]byte, 0, len(w))
	for i := 1; i < len(w); i++ {
		if plain(w[i]) {
			b = append(b, w[i])
			continue
		}
		if w[i] != '%' || i+2 >= len(w) {
			return "", false
		}
		high, low := digit(w[i+1]), digit(w[i+2])
		if high > 15 || low > 15 || plain(high<<4|low) {
			return "", false
		}
		b = append(b, high<<4|low)
		i += 2
	}
	return string(b), true
}

// plain tells whether a byte stands for itself.
func plain(c byte) bool {
	switch {
	case c >= 'a' && c <= 'z', c >= 'A' && c <= 'Z', c >= '0' && c <= '9':
		return true
	}
	return c == '-' || c == '.' || c == '_' || c == '~'
}

// digit tells the number of a digit as words have them; 16 of all else.
func digit(c byte) byte {
	switch {
	case c >= '0' && c <= '9':
		return c - '0'
	case c >= 'A' && c <= 'F':
		return c - 'A' + 10
	}
	return 16
}
