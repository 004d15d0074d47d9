package text

import (
	"headland/api"
	"slices"
)

// Reader reads a text, with two tokens of lookahead. Its methods panic with a Failure where the text does not have the required form. The numbers that they return may exceed the limits.
type Reader struct {
	source scanner
	ahead  []Token
}

// NewReader returns a reader of a text.
func NewReader(text string) *Reader {
	return &Reader{source: scanner{text: text}}
}

// Fail panics with ErrForm.
func (r *Reader) Fail() {
	panic(Failure{api.ErrForm})
}

// Peek returns the token that comes after i others.
func (r *Reader) Peek(i int) Token {
	for len(r.ahead) <= i {
		r.ahead = append(r.ahead, r.source.next())
	}
	return r.ahead[i]
}

// Next takes the next token.
func (r *Reader) Next() Token {
	t := r.Peek(0)
	r.ahead = r.ahead[1:]
	return t
}

// Is reports whether the next token is this sign or word.
func (r *Reader) Is(text string) bool {
	t := r.Peek(0)
	return (t.Kind == Sign || t.Kind == Word) && t.Text == text
}

// Accept takes the next token if it is this sign or word.
func (r *Reader) Accept(text string) bool {
	if !r.Is(text) {
		return false
	}
	r.Next()
	return true
}

// Expect takes the next token, which must be this sign or word.
func (r *Reader) Expect(text string) {
	if !r.Accept(text) {
		r.Fail()
	}
}

// End requires that no token is left.
func (r *Reader) End() {
	if r.Peek(0).Kind != End {
		r.Fail()
	}
}

// Name takes a name.
func (r *Reader) Name() string {
	return r.token(Name).Text
}

// Number takes a number.
func (r *Reader) Number() int {
	return r.token(Number).Value
}

func (r *Reader) token(kind int) Token {
	t := r.Next()
	if t.Kind != kind {
		r.Fail()
	}
	return t
}

// Names takes a list of names, which may be empty.
func (r *Reader) Names() []string {
	var l []string
	if r.Peek(0).Kind != Name {
		return l
	}
	l = append(l, r.Name())
	for r.Accept(",") {
		l = append(l, r.Name())
	}
	return l
}

// Lin takes a linear expression over variables with these names.
func (r *Reader) Lin(names []string) api.Lin {
	l := api.Lin{C: make([]int, len(names))}
	sign := 1
	if r.Accept("-") {
		sign = -1
	}
	for {
		r.term(names, sign, &l)
		switch {
		case r.Accept("+"):
			sign = 1
		case r.Accept("-"):
			sign = -1
		default:
			return l
		}
	}
}

// term adds a term to a linear expression.
func (r *Reader) term(names []string, sign int, l *api.Lin) {
	n := sign
	if r.Peek(0).Kind == Number {
		n *= r.Number()
		if !r.Accept("*") && r.Peek(0).Kind != Name {
			l.K += n
			return
		}
	}
	i := slices.Index(names, r.Name())
	if i < 0 {
		r.Fail()
	}
	l.C[i] += n
}

// Pieces takes the pieces of a set over variables with these names.
func (r *Reader) Pieces(names []string) [][]api.Cond {
	var l [][]api.Cond
	for {
		if !r.Accept("false") {
			l = append(l, r.piece(names))
		}
		if !r.Accept("or") {
			return l
		}
	}
}

func (r *Reader) piece(names []string) []api.Cond {
	if r.Accept("true") {
		return nil
	}
	p := []api.Cond{r.cond(names)}
	for r.Accept("and") {
		p = append(p, r.cond(names))
	}
	return p
}

func (r *Reader) cond(names []string) api.Cond {
	if second := r.Peek(1); r.Peek(0).Kind == Number && second.Kind == Sign && second.Text == "|" {
		m := r.Number()
		r.Next()
		return api.Cond{Kind: api.Div, M: m, L: r.Lin(names)}
	}
	a := r.Lin(names)
	sign := r.token(Sign).Text
	b := r.Lin(names)
	switch sign {
	case "=":
		return api.Cond{Kind: api.Eq, L: difference(a, b, 0)}
	case ">=":
		return api.Cond{Kind: api.Ge, L: difference(a, b, 0)}
	case "<=":
		return api.Cond{Kind: api.Ge, L: difference(b, a, 0)}
	case ">":
		return api.Cond{Kind: api.Ge, L: difference(a, b, 1)}
	case "<":
		return api.Cond{Kind: api.Ge, L: difference(b, a, 1)}
	}
	panic(Failure{api.ErrForm})
}

// difference returns a - b - k.
func difference(a, b api.Lin, k int) api.Lin {
	c := make([]int, len(a.C))
	for i := range c {
		c[i] = a.C[i] - b.C[i]
	}
	return api.Lin{C: c, K: a.K - b.K - k}
}
