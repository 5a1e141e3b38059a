package script

import (
	"bytes"
	"strings"

	"gossamer/api"
	"gossamer/play"
)

// form is what lines of a kind look like: their word, and how many texts they
// have at least and at most.
type form struct {
	word        string
	least, most int
}

// of tells the form of a kind; one without a word, if there is no such kind.
func of(kind int) form {
	switch kind {
	case KFile:
		return form{"file", 2, 2}
	case KDir:
		return form{"dir", 1, 1}
	case KLink:
		return form{"link", 2, 2}
	case KMap:
		return form{"map", 2, 2}
	case KHTML:
		return form{"html", 2, 2}
	case KESM:
		return form{"esm", 2, 2 + api.MaxConds}
	case KCJS:
		return form{"cjs", 2, 2 + api.MaxConds}
	}
	return form{}
}

// kindOf tells the kind of a word; 0, if there is none.
func kindOf(word string) int {
	for kind := KFile; kind <= KCJS; kind++ {
		if of(kind).word == word {
			return kind
		}
	}
	return 0
}

// fits tells whether a line is one that may stand there. The tree is told ahead
// of all else.
func fits(l Line, asked bool) bool {
	f := of(l.Kind)
	return f.word != "" && len(l.Texts) >= f.least && len(l.Texts) <= f.most && !(asked && play.Node(l.Kind) != 0)
}

// Show tells lines as bytes.
func Show(ls ...Line) ([]byte, api.Errno) {
	asked := false
	for _, l := range ls {
		if !fits(l, asked) {
			return nil, api.ErrForm
		}
		asked = play.Node(l.Kind) == 0
	}
	if len(ls) > api.MaxOps {
		return nil, api.ErrSize
	}
	var b []byte
	for _, l := range ls {
		b = append(b, of(l.Kind).word...)
		for _, s := range l.Texts {
			b = append(append(b, ' '), Word(s)...)
		}
		b = append(b, '\n')
	}
	return b, api.OK
}

// Parse reads lines, or tells the number of the first one that is wrong.
func Parse(b []byte) ([]Line, int, api.Errno) {
	if len(b) > api.MaxBytes {
		return nil, 0, api.ErrSize
	}
	var ls []Line
	asked := false
	for number := 1; len(b) > 0; number++ {
		if number > api.MaxOps {
			return nil, number, api.ErrSize
		}
		end := bytes.IndexByte(b, '\n')
		if end < 0 {
			return nil, number, api.ErrForm
		}
		l, ok := line(string(b[:end]))
		if !ok || !fits(l, asked) {
			return nil, number, api.ErrForm
		}
		asked = play.Node(l.Kind) == 0
		ls = append(ls, l)
		b = b[end+1:]
	}
	return ls, 0, api.OK
}

// line reads a line, if it is a word and others.
func line(s string) (Line, bool) {
	word, rest, more := strings.Cut(s, " ")
	l := Line{Kind: kindOf(word)}
	for more {
		word, rest, more = strings.Cut(rest, " ")
		text, ok := Read(word)
		if !ok {
			return Line{}, false
		}
		l.Texts = append(l.Texts, text)
	}
	return l, true
}
