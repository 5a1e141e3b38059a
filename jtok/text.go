package jtok

import (
	"gossamer/api"
	"gossamer/ascii"
	"gossamer/utf"
)

const (
	firstHigh = 0xd800
	firstLow  = 0xdc00
	behindLow = 0xe000
	beyond    = 0x10000
)

// text reads a string, from its quote on.
func (s *scanner) text() bool {
	begin := s.at
	s.at++
	from := s.at // what is read from there on stands for itself
	var read []byte
	for s.at < len(s.b) {
		switch c := s.b[s.at]; {
		case c == '"':
			s.put(api.TokString, begin, s.kept(read, from, s.at))
			s.at++
			return true
		case c == '\\':
			ahead := s.b[from:s.at]
			more, ok := s.escape()
			if !ok {
				return false
			}
			if s.keep {
				read = append(append(read, ahead...), more...)
			}
			from = s.at
		case c < 0x20:
			return false
		case c < 0x80:
			s.at++
		default:
			_, n, ok := utf.Next(s.b[s.at:])
			if !ok {
				return false
			}
			s.at += n
		}
	}
	return false
}

// kept tells what was read, and what stands behind that, if it is to be kept.
func (s *scanner) kept(read []byte, from int, to int) string {
	switch {
	case !s.keep:
		return ""
	case len(read) == 0:
		return string(s.b[from:to])
	}
	return string(append(read, s.b[from:to]...))
}

// escape reads an escape, and tells the bytes that it stands for.
func (s *scanner) escape() ([]byte, bool) {
	s.at++
	c := here(s.b, s.at)
	if c == 'u' {
		s.at++
		unit, ok := s.unit()
		return utf.Encode(s.point(unit)), ok
	}
	if c = short(c); c == 0 {
		return nil, false
	}
	s.at++
	return []byte{c}, true
}

// short tells what an escape of one byte stands for; 0 of what is none.
func short(c byte) byte {
	switch c {
	case '"', '\\', '/':
		return c
	case 'b':
		return '\b'
	case 'f':
		return '\f'
	case 'n':
		return '\n'
	case 'r':
		return '\r'
	case 't':
		return '\t'
	}
	return 0
}

// unit reads four hex digits.
func (s *scanner) unit() (rune, bool) {
	unit := rune(0)
	for range 4 {
		d := ascii.Hex(here(s.b, s.at))
		if d < 0 {
			return 0, false
		}
		unit = unit<<4 | rune(d)
		s.at++
	}
	return unit, true
}

// point tells the code point of a unit that was read, and of a low one right
// behind a high one, which it reads only if it belongs there. A unit that
// stands alone where two belong is no scalar value: utf tells U+FFFD for it.
func (s *scanner) point(unit rune) rune {
	if unit < firstHigh || unit >= firstLow || here(s.b, s.at) != '\\' || here(s.b, s.at+1) != 'u' {
		return unit
	}
	back := s.at
	s.at += 2
	low, ok := s.unit()
	if !ok || low < firstLow || low >= behindLow {
		s.at = back
		return unit
	}
	return beyond + (unit-firstHigh)<<10 + (low - firstLow)
}
