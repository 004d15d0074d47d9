// Package text reads the tokens and the parts that texts of sets, of programs and of scripts have in common.
package text

import "headland/api"

// Kinds of tokens.
const (
	End    = 0 // there are no more tokens
	Name   = 1
	Word   = 2 // a reserved word
	Number = 3
	Sign   = 4
)

// Token is a token with its text, and with its value if it is a number.
type Token struct {
	Kind  int
	Text  string
	Value int
}

// Failure is what a reader panics with.
type Failure struct {
	Code api.Errno
}

// most is the greatest value of a number.
const most = 1 << 31

// IsName reports whether s is a name: neither too long nor a reserved word.
func IsName(s string) bool {
	if s == "" || len(s) > api.MaxName || !letter(s[0]) || reserved(s) {
		return false
	}
	for i := range len(s) {
		if !letter(s[i]) && !digit(s[i]) {
			return false
		}
	}
	return true
}

func reserved(s string) bool {
	switch s {
	case "and", "or", "true", "false", "for", "to", "step", "if", "else", "min", "max", "floor", "ceil", "array", "param", "parallel", "vector":
		return true
	}
	return false
}

func letter(c byte) bool { return 'a' <= c && c <= 'z' || 'A' <= c && c <= 'Z' }

func digit(c byte) bool { return '0' <= c && c <= '9' }

// scanner yields the tokens of a text, one at a time.
type scanner struct {
	text string
	at   int
}

// next returns the next token. It panics with a Failure if there is none where the text goes on.
func (s *scanner) next() Token {
	for s.at < len(s.text) && (s.text[s.at] == ' ' || s.text[s.at] == '\n') {
		s.at++
	}
	if s.at == len(s.text) {
		return Token{}
	}
	switch c := s.text[s.at]; {
	case letter(c):
		t := s.take(func(c byte) bool { return letter(c) || digit(c) })
		if reserved(t) {
			return Token{Kind: Word, Text: t}
		}
		if !IsName(t) {
			panic(Failure{api.ErrForm})
		}
		return Token{Kind: Name, Text: t}
	case digit(c):
		t := s.take(digit)
		return Token{Kind: Number, Text: t, Value: value(t)}
	}
	return s.sign()
}

// take returns the longest text from here on whose bytes belong to it.
func (s *scanner) take(belongs func(byte) bool) string {
	from := s.at
	for s.at < len(s.text) && belongs(s.text[s.at]) {
		s.at++
	}
	return s.text[from:s.at]
}

func value(digits string) int {
	n := 0
	for i := range len(digits) {
		n = 10*n + int(digits[i]-'0')
		if n > most {
			panic(Failure{api.ErrForm})
		}
	}
	return n
}

// sign returns the longest sign that stands here.
func (s *scanner) sign() Token {
	for n := 2; n > 0; n-- {
		if s.at+n > len(s.text) {
			continue
		}
		switch t := s.text[s.at : s.at+n]; t {
		case "{", "}", "(", ")", "[", "]", ",", ";", ":", "+", "-", "*", "|", "=", "<=", ">=", "<", ">", "->":
			s.at += n
			return Token{Kind: Sign, Text: t}
		}
	}
	panic(Failure{api.ErrForm})
}
