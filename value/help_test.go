package value_test

import (
	"math/rand"
	"strings"
	"testing"

	"modality/api"
)

// is tells whether an error is this layer's fault with this number at this place; OK: no error.
func is(err error, code api.Errno, at int) bool {
	if code == api.OK {
		return err == nil
	}
	f, ok := err.(*api.Fault)
	return ok && f != nil && f.Layer == "value" && f.At == at && f.Err == error(code)
}

// reading is what must come of a text that is read: a value, or a refusal.
type reading[T comparable] struct {
	text string
	want T
	code api.Errno
	at   int
}

// wantRead fails if texts are not read as they must be.
func wantRead[T comparable](t *testing.T, call string, parse func(string) (T, error), list []reading[T]) {
	t.Helper()
	for _, c := range list {
		if got, err := parse(c.text); got != c.want || !is(err, c.code, c.at) {
			t.Errorf("%s(%q): %v, %v; want %v, %d at %d", call, c.text, got, err, c.want, c.code, c.at)
		}
	}
}

// printing is what must come of plain data that is written: a text, or a refusal.
type printing[T comparable] struct {
	data T
	want string
	code api.Errno
	at   int
}

// wantPrinted fails if plain data is not written as it must be.
func wantPrinted[T comparable](t *testing.T, call string, print func(T) (string, error), list []printing[T]) {
	t.Helper()
	for _, c := range list {
		if got, err := print(c.data); got != c.want || !is(err, c.code, c.at) {
			t.Errorf("%s(%v): %q, %v; want %q, %d at %d", call, c.data, got, err, c.want, c.code, c.at)
		}
	}
}

// formEnds tells where the form of a text ends, by all the shapes that it may have (d: a digit, s: a sign): at a byte with which none of them goes on, or at the text's end, if it ends too early; -1, if it has one of the shapes.
func formEnds(text string, shapes []string) int {
	for i := range len(text) {
		if !someShape(shapes, text[:i+1], false) {
			return i
		}
	}
	if someShape(shapes, text, true) {
		return -1
	}
	return len(text)
}

func someShape(shapes []string, text string, whole bool) bool {
	for _, shape := range shapes {
		if len(shape) < len(text) || whole && len(shape) != len(text) {
			continue
		}
		fits := true
		for i := range len(text) {
			switch b := text[i]; shape[i] {
			case 'd':
				fits = fits && b >= '0' && b <= '9'
			case 's':
				fits = fits && (b == '+' || b == '-')
			default:
				fits = fits && b == shape[i]
			}
		}
		if fits {
			return true
		}
	}
	return false
}

var timeShapes = []string{"dd", "dddd", "dddddd", "dddddd.d", "dddddd.dd", "dddddd.ddd", "dddddd.dddd", "dddddd.ddddd", "dddddd.dddddd"}

func momentShapes() []string {
	shapes := []string{"dddd", "dddddd", "dddddddd"}
	for _, s := range timeShapes {
		shapes = append(shapes, "dddddddd"+s)
	}
	for _, s := range shapes {
		shapes = append(shapes, s+"sdddd")
	}
	return shapes
}

// spoiled gives a text with a few of its bytes changed, left out or added.
func spoiled(r *rand.Rand, text, bytes string) string {
	for range r.Intn(3) {
		at := r.Intn(len(text) + 1)
		b := string(bytes[r.Intn(len(bytes))])
		switch r.Intn(3) {
		case 0:
			text = text[:at] + b + text[at:]
		case 1:
			text = text[:at] + b + text[min(at+1, len(text)):]
		case 2:
			text = text[:at] + text[min(at+1, len(text)):]
		}
	}
	return text
}

// allTexts gives every text of at most so many of these pieces.
func allTexts(most int, pieces ...string) []string {
	list := []string{""}
	for from := 0; most > 0; most-- {
		to := len(list)
		for _, head := range list[from:to] {
			for _, p := range pieces {
				list = append(list, head+p)
			}
		}
		from = to
	}
	return list
}

// someText gives a text of at most so many of these pieces, at random.
func someText(r *rand.Rand, most int, pieces ...string) string {
	var b strings.Builder
	for range r.Intn(most + 1) {
		b.WriteString(pieces[r.Intn(len(pieces))])
	}
	return b.String()
}
