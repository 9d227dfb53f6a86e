package ratio

import (
	"strings"

	"metewand/api"
	"metewand/exact"
	"metewand/stop"
)

// A reader goes through the text of a number byte by byte. What the next byte may be is known by the function in its field, which is one of its methods.
type reader struct {
	next   func(c byte) bool // takes a byte, or returns that it cannot stand here
	at     int               // how many bytes were taken
	ends   bool              // whether the text can end here
	mark   byte              // the point or the slash, if there is one
	marked int               // where it is
}

// read returns the number of a text.
func read(text string) exact.Ratio {
	r := &reader{}
	r.next = r.start
	for r.at < len(text) {
		stop.Demand(r.next(text[r.at]), api.ErrForm)
		r.at++
	}
	stop.Demand(r.ends, api.ErrForm)
	switch r.mark {
	case '.':
		return ofDecimal(text[:r.marked], text[r.marked+1:])
	case '/':
		return ofFraction(text[:r.marked], text[r.marked+1:])
	}
	return given(api.Rat{Num: text, Den: "1"})
}

func isDigit(c byte) bool { return c >= '0' && c <= '9' }

// start takes the sign, or the first digit.
func (r *reader) start(c byte) bool {
	if c == '-' {
		r.next = r.first
		return true
	}
	return r.first(c)
}

// first takes the first digit.
func (r *reader) first(c byte) bool {
	r.ends = true
	r.next = r.digit
	if c == '0' {
		r.next = r.sign
	}
	return isDigit(c)
}

// digit takes a digit before the point or the slash, or one of these.
func (r *reader) digit(c byte) bool { return isDigit(c) || r.sign(c) }

// sign takes the point or the slash.
func (r *reader) sign(c byte) bool {
	r.mark, r.marked, r.ends = c, r.at, false
	r.next = r.place
	return c == '.' || c == '/'
}

// place takes a digit behind the point or the slash.
func (r *reader) place(c byte) bool {
	r.ends = true
	return isDigit(c)
}

// ofFraction returns the number that the texts in front of the slash and behind it are.
func ofFraction(num, den string) exact.Ratio {
	stop.Demand(den != "1", api.ErrForm)
	return given(api.Rat{Num: num, Den: den})
}

// ofDecimal returns the number that the texts in front of the point and behind it are.
func ofDecimal(front, places string) exact.Ratio {
	stop.Demand(len(places) <= api.RatioPlaces, api.ErrForm)
	digits, minus := strings.CutPrefix(front, "-")
	stop.Demand(len(digits) <= api.Digits, api.ErrLarge)
	digits = strings.TrimLeft(digits+places, "0")
	if digits == "" {
		digits = "0"
	}
	number := exact.Quotient(exact.Read(digits), exact.Ten(len(places)))
	if minus {
		return number.Negative()
	}
	return number
}
