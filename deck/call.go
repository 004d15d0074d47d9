package deck

import (
	"headland/api"
	"headland/num"
	"headland/text"
	"strconv"
	"strings"
)

// greatest is the greatest number of a command, and colon separates its parts.
const (
	greatest = 1 << 31
	colon    = ":"
)

// call is what stands after a command's word: its words, and the text that they are taken from.
type call struct {
	words []string
	rest  string
}

// fail ends a command with an error.
func fail(e api.Errno) {
	panic(text.Failure{Code: e})
}

// got returns a result, or ends the command with the error.
func got[T any](x T, e api.Errno) T {
	if e != api.OK {
		fail(e)
	}
	return x
}

// parts returns the words before, between and behind the colons, of which there must be a certain number.
func (c call) parts(count int) [][]string {
	l := [][]string{nil}
	for _, w := range c.words {
		if w == colon {
			l = append(l, nil)
		} else {
			l[len(l)-1] = append(l[len(l)-1], w)
		}
	}
	if len(l) != count {
		fail(api.ErrForm)
	}
	return l
}

// numbers returns the numbers of a call without colons, of which there must be at least some.
func (c call) numbers(least int) []int {
	return numbers(c.words, least)
}

// exactly returns the numbers of a call without colons, of which there must be a certain number.
func (c call) exactly(count int) []int {
	if len(c.words) != count {
		fail(api.ErrForm)
	}
	return c.numbers(count)
}

// numbers returns the numbers that words are, of which there must be at least some.
func numbers(words []string, least int) []int {
	if len(words) < least {
		fail(api.ErrForm)
	}
	var l []int
	for _, w := range words {
		n, err := strconv.Atoi(w)
		// A number is written in one way only.
		if err != nil || strconv.Itoa(n) != w || n < -greatest || n > greatest {
			fail(api.ErrForm)
		}
		l = append(l, n)
	}
	return l
}

// expressions returns the list of expressions over a space that words make up.
func expressions(words, names []string) []api.Lin {
	if len(words) == 0 {
		return nil
	}
	r := text.NewReader(strings.Join(words, " "))
	l := []api.Lin{r.Lin(names)}
	for r.Accept(",") {
		l = append(l, r.Lin(names))
	}
	r.End()
	return l
}

// line returns a line of the output.
func line(words ...string) string {
	return strings.Join(words, " ") + "\n"
}

// digits returns the words for numbers.
func digits(l ...int) []string {
	var words []string
	for _, n := range l {
		words = append(words, strconv.Itoa(n))
	}
	return words
}

// checksums returns the line with a number for each array of a memory.
func checksums(memory [][]int) string {
	var l []int
	for _, cells := range memory {
		h := 0
		for _, v := range cells {
			h = got(num.Mod(31*h+v, 1000003))
		}
		l = append(l, h)
	}
	return line(digits(l...)...)
}
