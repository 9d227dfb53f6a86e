package unit

import (
	"slices"

	"metewand/api"
	"metewand/dim"
	"metewand/stop"
)

// A book is one that is known to be valid.
type book struct{ api.UnitBook }

// given returns the book that is given, which has to be valid.
func given(b api.UnitBook) book {
	stop.Demand(len(b.Prefixes) <= api.UnitPrefixes, api.ErrMany)
	for at, p := range b.Prefixes {
		checkPrefix(p, b.Prefixes[:at])
	}
	stop.Demand(len(b.Entries) <= api.UnitEntries, api.ErrMany)
	for at, e := range b.Entries {
		checkEntry(e, b.Entries[:at])
	}
	return book{b}
}

// checkPrefix ends the computation unless a prefix can stand behind those before it.
func checkPrefix(p api.UnitPrefix, before []api.UnitPrefix) {
	stop.Demand(isWord(p.Name), api.ErrName)
	stop.Demand(!slices.ContainsFunc(before, func(q api.UnitPrefix) bool { return q.Name == p.Name }), api.ErrTwice)
	positive(p.Factor)
}

// checkEntry ends the computation unless an entry can stand behind those before it.
func checkEntry(e api.UnitEntry, before []api.UnitEntry) {
	stop.Demand(isWord(e.Name), api.ErrName)
	positive(e.Factor)
	offset := number(e.Offset)
	stop.Pass(dim.Check(e.Dim))
	stop.Demand(e.Prefixed == 0 || e.Prefixed == 1 && offset.Sign() == 0, api.ErrKind)
	stop.Demand(e.Since >= 0 && e.Since <= e.Until && e.Until <= api.UnitVersion, api.ErrRange)
	stop.Demand(!slices.ContainsFunc(before, func(f api.UnitEntry) bool { return f.Name == e.Name && together(e, f) }), api.ErrTwice)
}

// together returns whether two entries are there in a same version.
func together(e, f api.UnitEntry) bool { return max(e.Since, f.Since) <= min(e.Until, f.Until) }

// isWord returns whether a text is a word.
func isWord(text string) bool {
	if text == "" || len(text) > api.UnitWord {
		return false
	}
	return !slices.ContainsFunc([]byte(text), func(c byte) bool { return !isLetter(c) })
}

func isLetter(c byte) bool { return c >= 'a' && c <= 'z' || c >= 'A' && c <= 'Z' }
