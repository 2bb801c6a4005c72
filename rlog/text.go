package rlog

import (
	"strconv"
	"strings"

	"parley/api"
)

// The keys of a store that has a log: the entries' begin with entryMark, and that of term and vote lies behind all of them.
const (
	entryMark = "e"
	stateKey  = "state"
)

const sep = ":" // behind a term, in a value

// entryKey is the key of an entry. The numbers in it are equally long, so that the keys' order is theirs.
func entryKey(i int) string {
	return entryMark + strconv.Itoa(1000+i)
}

// entryText is the value that keeps an entry: the longest one just fits.
func entryText(e api.Entry) string {
	return strconv.Itoa(e.Term) + sep + e.Data
}

func readEntry(v string) api.Entry {
	term, data, _ := strings.Cut(v, sep)
	n, _ := strconv.Atoi(term)
	return api.Entry{Term: n, Data: data}
}

// stateText is the value that keeps term and vote: one value, so that they change together.
func stateText(term, vote int) string {
	return strconv.Itoa(term) + sep + strconv.Itoa(vote)
}

func readState(v string) (int, int) {
	term, vote, _ := strings.Cut(v, sep)
	t, _ := strconv.Atoi(term)
	w, _ := strconv.Atoi(vote)
	return t, w
}

func mayBeState(term, vote int) bool {
	return term >= 0 && vote >= nobody && vote < api.MaxNodes
}

// isEntry tells whether a log writes this pair for entry number i: its value must be the text of what is read of it.
func isEntry(p api.Pair, i int) bool {
	e := readEntry(p.Val)
	return i <= api.MaxLog && p.Key == entryKey(i) && Check(e) && p.Val == entryText(e)
}

// isState tells whether a log writes this pair for a term and a vote.
func isState(p api.Pair) bool {
	term, vote := readState(p.Val)
	return p.Key == stateKey && mayBeState(term, vote) && p.Val == stateText(term, vote)
}
