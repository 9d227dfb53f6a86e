package unit

import (
	"iter"
	"strings"

	"metewand/api"
	"metewand/stop"
)

const (
	nothing  = "1"  // the text of no unit
	below    = "1/" // stands in front of a first factor whose power is turned
	times    = " "  // stands in front of a factor
	over     = "/"  // stands in front of a factor whose power is turned
	raisedTo = "^"  // stands in front of an exponent
)

// A state is how far the reader of a text has come.
type state int

const (
	atStart    state = iota
	behindOne        // behind a 1 at the start
	atFactor         // behind a blank or a slash
	inWord           // behind a letter
	atExponent       // behind ^
	atDigit          // behind a minus sign
	behind           // behind an exponent
)

// next returns the state behind a byte, which has to be able to stand here.
func (s state) next(c byte) state {
	switch s {
	case behindOne:
		if c == '/' {
			return atFactor
		}
	case atStart:
		if c == '1' {
			return behindOne
		}
		fallthrough
	case atFactor:
		if isLetter(c) {
			return inWord
		}
	case inWord:
		switch {
		case isLetter(c):
			return inWord
		case c == '^':
			return atExponent
		}
		fallthrough
	case behind:
		if c == ' ' || c == '/' {
			return atFactor
		}
	case atExponent:
		if c == '-' {
			return atDigit
		}
		fallthrough
	case atDigit:
		if c >= '1' && c <= '9' {
			return behind
		}
	}
	stop.Throw(api.ErrForm)
	return s
}

// ends returns whether a text can end here.
func (s state) ends() bool { return s == behindOne || s == inWord || s == behind }

// A unitText is a text of the right form.
type unitText string

// read returns the text that is given, which needs the right form, and not too many factors.
func read(text string) unitText {
	stop.Demand(len(text) <= api.ReadUnit, api.ErrLarge)
	s := atStart
	for at := range len(text) {
		s = s.next(text[at])
	}
	stop.Demand(s.ends(), api.ErrForm)
	t := unitText(text)
	count := 0
	for range t.factors() {
		count++
	}
	stop.Demand(count <= api.UnitParts, api.ErrMany)
	return t
}

// A factor of a text is letters, which may be a word, and the exponent.
type factor struct {
	word     string
	exponent int
}

// factors yields the factors of the text.
func (t unitText) factors() iter.Seq[factor] {
	return func(yield func(factor) bool) {
		if t == nothing {
			return
		}
		rest, turned := strings.CutPrefix(string(t), below)
		for rest != "" {
			end := strings.IndexAny(rest, times+over)
			if end < 0 {
				end = len(rest)
			}
			if !yield(readFactor(rest[:end], turned)) {
				return
			}
			turned = strings.HasPrefix(rest[end:], over)
			rest = rest[min(end+1, len(rest)):]
		}
	}
}

// readFactor returns a factor of its text. Its power is turned behind a slash.
func readFactor(text string, turned bool) factor {
	word, power, is := strings.Cut(text, raisedTo)
	f := factor{word, 1}
	if is {
		digit, minus := strings.CutPrefix(power, "-")
		f.exponent = int(digit[0] - '0')
		turned = turned != minus
	}
	if turned {
		f.exponent = -f.exponent
	}
	return f
}

// alone returns whether a factor is a word that is all of the text.
func (t unitText) alone(f factor) bool { return f.word == string(t) }
