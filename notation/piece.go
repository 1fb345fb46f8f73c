package notation

import (
	"strings"

	"gantry/api"
	"gantry/symbols"
)

// kind is what a piece is, as far as its text does not tell it.
type kind int

const (
	textEnd kind = iota
	word
	quoted
	mark // a sign or a directive
)

// piece is a part of a text, and the place of its first byte.
type piece struct {
	kind kind
	text string
	at   int
}

// isSymbol answers whether p may be a symbol of an alternative.
func (p piece) isSymbol() bool {
	return p.kind == word || p.kind == quoted
}

// pieceAt answers the piece that comes next from that place on, over blanks and remarks.
func pieceAt(text string, at int) piece {
	at = skip(text, at)
	if at == len(text) {
		return piece{kind: textEnd, at: at}
	}
	switch c := text[at]; {
	case beginsWord(text, at):
		return wordAt(text, at)
	case c == '\'':
		return quotedAt(text, at)
	case c == ':' || c == '|' || c == ';':
		return piece{kind: mark, text: text[at : at+1], at: at}
	case c == '%':
		return directiveAt(text, at)
	}
	giveUp(api.ErrChar, at)
	return piece{}
}

func wordAt(text string, at int) piece {
	end := at
	for end < len(text) && (beginsWord(text, end) || isDigit(text[end])) {
		end++
	}
	if !symbols.IsWord(text[at:end]) {
		giveUp(api.ErrName, at)
	}
	return piece{kind: word, text: text[at:end], at: at}
}

func quotedAt(text string, at int) piece {
	line := text[at:lineEnd(text, at)]
	n := strings.IndexByte(line[1:], '\'')
	if n < 0 {
		giveUp(api.ErrQuoted, at)
	}
	name := line[:n+2]
	if !symbols.IsQuoted(name) {
		giveUp(api.ErrName, at)
	}
	return piece{kind: quoted, text: name, at: at}
}

// directiveAt takes any letters: what is no directive can stand nowhere, which is the same fault at the same place.
func directiveAt(text string, at int) piece {
	end := at + 1
	for end < len(text) && 'a' <= text[end] && text[end] <= 'z' {
		end++
	}
	return piece{kind: mark, text: text[at:end], at: at}
}

// skip answers the place of the first byte, from that place on, that is in no blank and no remark.
func skip(text string, at int) int {
	for at < len(text) {
		switch text[at] {
		case '\t', '\n', '\r', ' ':
			at++
		case '#':
			at = lineEnd(text, at)
		default:
			return at
		}
	}
	return at
}

// lineEnd answers the place at which the line ends in which that place is.
func lineEnd(text string, at int) int {
	n := strings.IndexByte(text[at:], '\n')
	if n < 0 {
		return len(text)
	}
	return at + n
}

// beginsWord asks the one byte: if it is a word, every word may begin so.
func beginsWord(text string, at int) bool {
	return symbols.IsWord(text[at : at+1])
}

func isDigit(c byte) bool {
	return '0' <= c && c <= '9'
}
