package charset

import (
	"sync"
	"unicode/utf8"
)

// The repertoires, in the order of the document.
const (
	ascii = iota
	latin1
	latin2
	greek
	cyrillic
	latin5
	universal
)

// spelling is how a repertoire is named, without code extensions and with them, and how a text turns to it.
type spelling struct {
	alone    string
	extended string // "": it can't be one of several
	escape   string
}

var spellings = [...]spelling{
	ascii:     {"ISO_IR 6", "ISO 2022 IR 6", "\x1B(B"},
	latin1:    {"ISO_IR 100", "ISO 2022 IR 100", "\x1B-A"},
	latin2:    {"ISO_IR 101", "ISO 2022 IR 101", "\x1B-B"},
	greek:     {"ISO_IR 126", "ISO 2022 IR 126", "\x1B-F"},
	cyrillic:  {"ISO_IR 144", "ISO 2022 IR 144", "\x1B-L"},
	latin5:    {"ISO_IR 148", "ISO 2022 IR 148", "\x1B-M"},
	universal: {"ISO_IR 192", "", ""},
}

// named tells which repertoire a term names, and whether with code extensions.
func named(term string) (number int, extended, known bool) {
	for i, x := range spellings {
		if term == x.alone {
			return i, false, true
		}
		if term == x.extended && x.extended != "" {
			return i, true, true
		}
	}
	return 0, false, false
}

// repertoire is one of a set's: what its upper bytes, high to FF, stand for, and back.
type repertoire struct {
	number int
	term   string
	escape string
	runeOf func(b byte) rune // 0: the byte stands for nothing
	byteOf func(r rune) byte // 0: no byte stands for the rune
}

func repertoireOf(number int, term string) repertoire {
	runeOf := meaningOf(number)
	return repertoire{number, term, spellings[number].escape, runeOf, inverse(runeOf)}
}

// inverted has the bytes of a repertoire by their runes, once one has been asked for.
type inverted struct {
	once  sync.Once
	bytes map[rune]byte
}

func inverse(runeOf func(b byte) rune) func(r rune) byte {
	x := &inverted{}
	fill := func() { x.fill(runeOf) }
	return func(r rune) byte {
		x.once.Do(fill)
		return x.bytes[r]
	}
}

func (x *inverted) fill(runeOf func(b byte) rune) {
	x.bytes = map[rune]byte{}
	for b := high; b <= 0xFF; b++ {
		if r := runeOf(byte(b)); r != 0 {
			x.bytes[r] = byte(b)
		}
	}
}

// isWide tells whether a rune is one of those above ASCII that ISO_IR 192 has.
func isWide(r rune) bool { return r >= high && utf8.ValidRune(r) }
