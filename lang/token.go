package lang

import (
	"iter"
	"strconv"
	"strings"

	"armada/api"
)

// The kinds of tokens. The end of a text is one, and so is a place where none begins.
const (
	aNumber = 1
	aName   = 2
	aWord   = 3 // of the language
	aSign   = 4
	theEnd  = 5
	noToken = 6
)

// token is a token, and the offset of its first byte.
type token struct {
	kind int
	text string
	at   int
}

// tokens yields the tokens of a text. The last one is the end, or a place where none begins.
func tokens(text string) iter.Seq[token] {
	return func(yield func(token) bool) {
		for at := 0; ; {
			at += gap(text[at:])
			t := firstToken(text[at:])
			t.at = at
			if !yield(t) || t.kind == theEnd || t.kind == noToken {
				return
			}
			at += len(t.text)
		}
	}
}

// gap returns how many bytes at the beginning of a text are spaces, line ends and comments.
func gap(text string) int {
	n := 0
	for n < len(text) {
		switch text[n] {
		case ' ', '\n':
			n++
		case '#':
			n += span(text[n:], func(b byte) bool { return b != '\n' })
		default:
			return n
		}
	}
	return n
}

// firstToken returns the token with which a text begins.
func firstToken(text string) token {
	switch {
	case text == "":
		return token{kind: theEnd}
	case isLetter(text[0]):
		return firstWord(text)
	case isDigit(text[0]):
		return firstNumber(text)
	}
	return firstSign(text)
}

func firstWord(text string) token {
	s := text[:span(text, isWordByte)]
	switch {
	case len(s) > api.MaxName:
		return token{kind: noToken}
	case isWord(s):
		return token{kind: aWord, text: s}
	}
	return token{kind: aName, text: s}
}

func firstNumber(text string) token {
	s := text[:span(text, isDigit)]
	_, err := strconv.ParseInt(s, 10, 64)
	switch {
	case err != nil || s[0] == '0' && len(s) > 1:
		return token{kind: noToken}
	case len(s) < len(text) && isWordByte(text[len(s)]):
		return token{kind: noToken}
	}
	return token{kind: aNumber, text: s}
}

func firstSign(text string) token {
	if len(text) > 1 {
		switch text[:2] {
		case "==", "!=", "<=", ">=":
			return token{kind: aSign, text: text[:2]}
		}
	}
	if strings.IndexByte("=<>+-*/%(){},;", text[0]) < 0 {
		return token{kind: noToken}
	}
	return token{kind: aSign, text: text[:1]}
}
