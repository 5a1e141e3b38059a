package jshow

import "gossamer/api"

const hex = "0123456789abcdef"

// Show tells v as JSON; nothing of a value that JSON does not have.
func Show(v api.Value) []byte {
	if !May(v) {
		return nil
	}
	return appendValue(nil, v)
}

func appendValue(b []byte, v api.Value) []byte {
	switch v.Kind {
	case api.Bool:
		if v.B {
			return append(b, "true"...)
		}
		return append(b, "false"...)
	case api.Number:
		return append(b, v.S...)
	case api.String:
		return appendText(b, v.S)
	case api.Array:
		return appendArray(b, v)
	case api.Object:
		return appendObject(b, v)
	}
	return append(b, "null"...)
}

func appendArray(b []byte, v api.Value) []byte {
	b = append(b, '[')
	for i := range v.L {
		if i > 0 {
			b = append(b, ',')
		}
		b = appendValue(b, v.L[i])
	}
	return append(b, ']')
}

func appendObject(b []byte, v api.Value) []byte {
	b = append(b, '{')
	for i := range v.L {
		if i > 0 {
			b = append(b, ',')
		}
		b = append(appendText(b, v.K[i]), ':')
		b = appendValue(b, v.L[i])
	}
	return append(b, '}')
}

func appendText(b []byte, s string) []byte {
	b = append(b, '"')
	from := 0 // what is ahead of it is told
	for i := range len(s) {
		c := s[i]
		if c >= 0x20 && c != '"' && c != '\\' {
			continue
		}
		b = append(append(b, s[from:i]...), '\\')
		if e := short(c); e != 0 {
			b = append(b, e)
		} else {
			b = append(b, 'u', '0', '0', hex[c>>4], hex[c&15])
		}
		from = i + 1
	}
	return append(append(b, s[from:]...), '"')
}

// short tells the byte that tells c behind a \ ; 0, if there is none.
func short(c byte) byte {
	switch c {
	case '"', '\\':
		return c
	case '\b':
		return 'b'
	case '\f':
		return 'f'
	case '\n':
		return 'n'
	case '\r':
		return 'r'
	case '\t':
		return 't'
	}
	return 0
}
