package shell

import (
	"strings"

	"lantern/api"
)

const (
	maxDigits = 19 // of a number: so many are less than 2^64, whatever they are
	hexDigits = "0123456789abcdef"
)

// line is what is left of a line to be read, and whether something was read that may not stand there.
type line struct {
	rest  string
	wrong bool
}

// plain tells whether a line has none but the bytes that may stand in one. What is no rune comes as one that is too great.
func plain(text string) bool {
	for _, r := range text {
		if r != '\t' && (r < ' ' || r > '~') {
			return false
		}
	}
	return true
}

func isBlank(r rune) bool { return r == ' ' || r == '\t' }

// word takes the next word, which is empty if there is none. The one blank that ends it goes with it, and no more: those behind it can be a block's.
func (l *line) word() string {
	text, from := l.rest, 0
	for i, r := range text {
		switch {
		case !isBlank(r):
			continue
		case from < i:
			l.rest = text[i+1:]
			return text[from:i]
		}
		from = i + 1
	}
	l.rest = ""
	return text[from:]
}

// tail takes all that is left, as it stands.
func (l *line) tail() string {
	text := l.rest
	l.rest = ""
	return text
}

// refuseIf marks the line, if something of it may not be.
func (l *line) refuseIf(wrong bool) { l.wrong = l.wrong || wrong }

// engine takes the name of an engine.
func (l *line) engine() int {
	switch l.word() {
	case "a":
		return 0
	case "b":
		return 1
	}
	l.refuseIf(true)
	return 0
}

// number takes a number.
func (l *line) number() int { return l.numberOf(l.word()) }

func (l *line) numberOf(word string) int {
	n, ok := number(word)
	l.refuseIf(!ok)
	return n
}

// red is how many bytes of a block are red by a word that was taken: it can stand ahead of what says how many there are.
func (l *line) red(word string, size int) int {
	if word == "all" {
		return size
	}
	return l.numberOf(word)
}

// number is what a word of digits is, if it is a number.
func number(word string) (int, bool) {
	switch {
	case word == "" || len(word) > maxDigits:
		return 0, false
	case word[0] == '0' && word != "0":
		return 0, false
	}
	n := uint64(0)
	for _, r := range word {
		if r < '0' || r > '9' {
			return 0, false
		}
		n = n*10 + uint64(r-'0')
	}
	if n > api.MaxNum {
		return 0, false
	}
	return int(n), true
}

// pairs is the bytes that a word of pairs of digits is, if it is one.
func pairs(word string) ([]byte, bool) {
	if word == "" || len(word)%2 != 0 {
		return nil, false
	}
	b := make([]byte, len(word)/2)
	for i, r := range word {
		d := strings.IndexRune(hexDigits, r)
		if d < 0 {
			return nil, false
		}
		b[i/2] = b[i/2]<<4 | byte(d)
	}
	return b, true
}
