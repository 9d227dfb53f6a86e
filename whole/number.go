package whole

import (
	"metewand/api"
	"metewand/exact"
	"metewand/stop"
)

// check ends the computation unless a text is a valid number.
func check(text string) {
	stop.Demand(exact.Width(text, 10) <= api.Digits, api.ErrLarge)
}

// read returns the number of a text, which has to be valid.
func read(text string) exact.Int {
	check(text)
	return exact.Read(text)
}

// text returns the text of a number, unless it has too many digits.
func text(n exact.Int) string {
	stop.Demand(n.Length() <= api.Digits, api.ErrLarge)
	return n.Text()
}
