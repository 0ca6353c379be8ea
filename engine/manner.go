package engine

import (
	"slices"
	"strconv"
	"strings"

	"modality/api"
)

// The greatest numbers that a word may tell.
const (
	maxNumber = 1<<31 - 1
	maxId     = 1<<16 - 1
)

// noBytes stands for no bytes where pairs of digits are asked for.
const noBytes = "-"

// manner is how values of one kind stand in a word.
type manner[T any] struct {
	read  func(word) (T, bool)
	said  func(T) bool // whether a word says such a value at all
	write func(T) string
}

// texts are words of any kind.
func texts() manner[string] {
	return manner[string]{
		read:  func(w word) (string, bool) { return w.text, true },
		said:  func(string) bool { return true },
		write: quote,
	}
}

// numbers are whole ones, up to a greatest.
func numbers[T int | uint16 | uint32](most int64) manner[T] {
	return manner[T]{
		read: func(w word) (T, bool) {
			n, ok := numberOf(w.text)
			return T(n), ok && !w.quoted && n <= most
		},
		said:  func(v T) bool { return within(int64(v), most) },
		write: func(v T) string { return strconv.FormatInt(int64(v), 10) },
	}
}

func within(n, most int64) bool { return n >= 0 && n <= most }

// numberOf reads a number without a sign and without a 0 ahead of it.
func numberOf(text string) (int64, bool) {
	if text != "0" && (text == "" || text[0] < '1' || text[0] > '9') {
		return 0, false
	}
	n, err := strconv.ParseInt(text, 10, 64)
	return n, err == nil && n <= maxNumber
}

// pairs are bytes, two digits each.
func pairs() manner[[]byte] {
	return manner[[]byte]{
		read:  readPairs,
		said:  func([]byte) bool { return true },
		write: writePairs,
	}
}

func readPairs(w word) ([]byte, bool) {
	if w.isPlain(noBytes) {
		return nil, true
	}
	var b []byte
	for rest := w.text; rest != ""; rest = rest[2:] {
		c, ok := hexByte(rest)
		if !ok {
			return nil, false
		}
		b = append(b, c)
	}
	return b, !w.quoted
}

// writePairs does not go on with bytes that are too many for any script.
func writePairs(b []byte) string {
	if len(b) == 0 {
		return noBytes
	}
	var text []byte
	for _, c := range b[:min(len(b), api.MaxDump)] {
		text = appendHex(text, c)
	}
	return string(text)
}

// named is a value that has a word of its own.
type named[T comparable] struct {
	word  string
	value T
}

// syntaxNames gives the words of the syntaxes.
func syntaxNames() []named[api.Syntax] {
	return []named[api.Syntax]{{"explicit", api.Explicit}, {"implicit", api.Implicit}}
}

// classNames gives the words of the classes.
func classNames() []named[string] {
	return []named[string]{{"verify", api.UIDVerify}, {"worklist", api.UIDWorklist}, {"perform", api.UIDPerform}, {"retrieve", api.UIDRetrieve}}
}

// nameOf is the word of a value, "" if it has none.
func nameOf[T comparable](names []named[T], v T) string {
	for _, n := range names {
		if n.value == v {
			return n.word
		}
	}
	return ""
}

// valueOf is the value of a word, if it is one's.
func valueOf[T comparable](names []named[T], text string) (T, bool) {
	for _, n := range names {
		if n.word == text {
			return n.value, true
		}
	}
	var none T
	return none, false
}

// someOf are one or more of the values that have names, none twice, with commas between.
func someOf[T comparable](names []named[T]) manner[[]T] {
	return manner[[]T]{
		read: func(w word) ([]T, bool) {
			var list []T
			for _, text := range strings.Split(w.text, ",") {
				v, ok := valueOf(names, text)
				if !ok || slices.Contains(list, v) {
					return nil, false
				}
				list = append(list, v)
			}
			return list, !w.quoted
		},
		said: func(list []T) bool {
			for i, v := range list {
				if nameOf(names, v) == "" || slices.Contains(list[:i], v) {
					return false
				}
			}
			return len(list) > 0
		},
		write: func(list []T) string {
			var words []string
			for _, v := range list {
				words = append(words, nameOf(names, v))
			}
			return strings.Join(words, ",")
		},
	}
}
