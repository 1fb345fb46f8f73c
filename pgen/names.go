package pgen

import (
	"strings"

	"gantry/api"
)

const blank = ' '

// tokensOf answers a token for each name of a text, or api.ErrKnown and the place of the first that is no terminal's.
func tokensOf(terms []string, text string) ([]api.Token, api.Errno, int) {
	kinds := kindsOf(terms)
	var w []api.Token
	for at := nameBegin(text, 0); at < len(text); {
		end := nameEnd(text, at)
		kind, known := kinds[text[at:end]]
		if !known {
			return nil, api.ErrKnown, at
		}
		w = append(w, api.Token{Kind: kind, Text: terms[kind]})
		at = nameBegin(text, end)
	}
	return w, api.OK, 0
}

func kindsOf(terms []string) map[string]int {
	kinds := make(map[string]int, len(terms))
	for kind, name := range terms {
		kinds[name] = kind
	}
	return kinds
}

// nameBegin answers where the next name begins, from a place on; the text's length, if there is none.
func nameBegin(text string, at int) int {
	for at < len(text) && text[at] == blank {
		at++
	}
	return at
}

// nameEnd answers the place behind the name that begins at a place.
func nameEnd(text string, at int) int {
	if n := strings.IndexByte(text[at:], blank); n >= 0 {
		return at + n
	}
	return len(text)
}
