package feed_test

import (
	"math/rand"
	"strings"
	"testing"

	"modality/api"
	"modality/feed"
)

func wantSplit(t *testing.T, text string) {
	t.Helper()
	want, code, at := modelSplit(text)
	got, err := feed.Split(text)
	if !is(err, code, at) || len(got) != len(want) || len(got) > 0 && !same(got, want) || code != api.OK && got != nil {
		t.Fatalf("P11.2: Split(%.300q) = %s, %v\nwant %s, errno %d at %d", text, shown(got), err, shown(want), code, at)
	}
}

// TestSplitExamples: the chapter's, and its words' edges, by hand.
func TestSplitExamples(t *testing.T) {
	for _, c := range []struct {
		text string
		want string // fields with ; between, segments with /
		code api.Errno
		at   int
	}{
		{"MSH|^~\\&|A\rPID|1||X", "MSH;|;^~\\&;A/PID;1;;X", api.OK, 0},
		{"MSH|^~\\&|", "MSH;|;^~\\&;", api.OK, 0},
		{"\nMSH|^~\\&|A\r", "MSH;|;^~\\&;A", api.OK, 0},
		{"MSH|^~\\&|A\r\nPID|1\r\n\r\r\nORC\r\n", "MSH;|;^~\\&;A/PID;1/ORC", api.OK, 0},
		{"MSH#!$%'#A#B^C\rPID|#1", "MSH;#;!$%';A;B^C/PID|;1", api.ErrFeedSegment, 1},
		{"MSH#!$%'#A#B^C\rPID#|1", "MSH;#;!$%';A;B^C/PID;|1", api.OK, 0},
		{"MSH|^~\\&|\rMSH|^~\\&|A", "MSH;|;^~\\&;/MSH;^~\\&;A", api.OK, 0},
		{"MSH|^~\\&|a\\F\\b~c^d\rID|\rA||\r|||\r||||x", "MSH;|;^~\\&;a\\F\\b~c^d/ID;/A;;/;;;/;;;;x", api.OK, 0},
		{"", "", api.ErrFeedHead, 0},
		{"\r\nMSH|^~\\&|", "", api.ErrFeedHead, 0},
		{"\rMSH|^~\\&|", "", api.ErrFeedHead, 0},
		{"\n\nMSH|^~\\&|", "", api.ErrFeedHead, 0},
		{"MSH|^~\\&", "", api.ErrFeedHead, 0},
		{"MSH|^~\\&#|", "", api.ErrFeedHead, 0},
		{"MSH|^~\\|", "", api.ErrFeedHead, 0},
		{"MSH|^~\\&\r|", "", api.ErrFeedHead, 0},
		{"msh|^~\\&|", "", api.ErrFeedHead, 0},
		{"MSH|^~\\&|\rPID\r\n\nX", "", api.ErrFeedSegment, 2},
		{"MSH|^~\\&|\rPID\r\n\nX|", "MSH;|;^~\\&;/PID/\nX;", api.OK, 0},
		{"MSH|^~\\&|\r\nPI", "", api.ErrFeedSegment, 1},
		{"MSH|^~\\&|\r\n\n", "", api.ErrFeedSegment, 1},
		{"MSH|^~\\&|\rPID\r\rIDX|", "MSH;|;^~\\&;/PID/IDX;", api.OK, 0},
		{"MSH|^~\\&|\rPID\r\rID|X|", "", api.ErrFeedSegment, 2},
	} {
		got, err := feed.Split(c.text)
		var lines []string
		for _, s := range got {
			lines = append(lines, strings.Join(s, ";"))
		}
		if !is(err, c.code, c.at) || err == nil && strings.Join(lines, "/") != c.want {
			t.Errorf("P11.2: Split(%q) = %q, %v", c.text, got, err)
		}
		wantSplit(t, c.text)
	}
}

// TestSplitSegments: all short texts of the bytes that count, behind a header.
func TestSplitSegments(t *testing.T) {
	var walk func(text string, left int)
	walk = func(text string, left int) {
		wantSplit(t, text)
		if left == 0 {
			return
		}
		for _, c := range []byte("\r\nA|^") {
			walk(text+string(rune(c)), left-1)
		}
	}
	walk("", 4)
	walk("MSH|^~\\&", 3)
	walk("MSH|^~\\&|", 6)
	walk("MSH|^~\\&|\rPID|x", 6)
	walk("MSH|^~\\&|\rPID|x\rAB", 5)
}

// TestSplitHead: a header that is cut off, or has another byte somewhere.
func TestSplitHead(t *testing.T) {
	const text = "MSH|^~\\&|A\rPID|1"
	for i := range len(text) + 1 {
		wantSplit(t, text[:i])
		wantSplit(t, text[i:])
		wantSplit(t, "\n"+text[:i])
		for c := range 256 {
			b := string([]byte{byte(c)})
			wantSplit(t, text[:i]+b+text[i:])
			if i < len(text) {
				wantSplit(t, text[:i]+b+text[i+1:])
			}
		}
	}
}

// TestSplitMarks: every byte as each mark, with a field mark behind, and every two marks alike.
func TestSplitMarks(t *testing.T) {
	for i := range 5 {
		for c := range 256 {
			marks := []byte("|^~\\&")
			marks[i] = byte(c)
			wantSplit(t, "MSH"+string(marks)+string(marks[:1])+"A"+string(marks[:1])+"\rPID"+string(marks[:1])+"x")
		}
		for k := range 5 {
			marks := []byte("!#$%'")
			marks[i] = marks[k]
			wantSplit(t, "MSH"+string(marks)+string(marks[:1])+"A")
			_, err := feed.Split("MSH" + string(marks) + string(marks[:1]) + "A")
			if (i == k) != (err == nil) {
				t.Errorf("P11.2: marks %s: %v", marks, err)
			}
		}
	}
}

// TestSplitAny: a message with bytes changed, taken away and put in, also one that is longer than a message may be.
func TestSplitAny(t *testing.T) {
	r := rand.New(rand.NewSource(3))
	for range 20000 {
		wantSplit(t, spoilt(r, whole))
	}
	wantSplit(t, head+strings.Repeat("NTE|x\r", 10000))
}

// spoilt changes a text at a few places.
func spoilt(r *rand.Rand, text string) string {
	b := []byte(text)
	const bytes = "\r\n|^~\\&MX01F \x00\xff\xc3\xa9="
	for range 1 + r.Intn(3) {
		i := r.Intn(len(b))
		c := bytes[r.Intn(len(bytes))]
		switch r.Intn(4) {
		case 0:
			b = append(b[:i], b[i+1:]...)
		case 1:
			b = append(b[:i], append([]byte{c}, b[i:]...)...)
		case 2:
			b[i] = c
		default:
			k := r.Intn(len(b))
			b[i], b[k] = b[k], b[i]
		}
	}
	return string(b)
}

func wantPlain(t *testing.T, marks, piece string) {
	t.Helper()
	want, at, ok := modelPlain(marks, piece)
	code := api.ErrFeedEscape
	if ok {
		code = api.OK
	}
	if got, err := feed.Plain(marks, piece); !is(err, code, at) || got != want {
		t.Fatalf("P11.3: Plain(%q, %q) = %q, %v\nwant %q, errno %d at %d", marks, piece, got, err, want, code, at)
	}
}

// TestPlain: all short pieces of the bytes that count, and each byte as an escape.
func TestPlain(t *testing.T) {
	const marks = "|^~\\&"
	var walk func(piece string, left int)
	walk = func(piece string, left int) {
		wantPlain(t, marks, piece)
		if left == 0 {
			return
		}
		for _, c := range []byte("\\XF0ag\xff") {
			walk(piece+string([]byte{c}), left-1)
		}
	}
	walk("", 6)
	for c := range 256 {
		b := string([]byte{byte(c)})
		for _, piece := range []string{b, "\\" + b + "\\", "a\\" + b, "\\X" + b + "0\\", "\\X0" + b + "\\", "\\X4142" + b + "\\", "\\" + b + "41\\", "\\E\\" + b, "\\F" + b + "\\", "\\" + b + "F\\"} {
			wantPlain(t, marks, piece)
		}
		wantPlain(t, "#!$%'", b+"%S%"+b+"%T%%X4a4B%")
	}
	for c := range 0x10000 {
		wantPlain(t, marks, "x\\X"+string([]byte{byte(c >> 8), byte(c)})+"\\y")
	}
}

// TestPlainMarks: each escape stands for its mark, whatever the marks are; texts that are not five marks are refused.
func TestPlainMarks(t *testing.T) {
	for _, marks := range []string{"|^~\\&", "#!$%'", "~|{}_", "\"`@/:", "&\\~^|"} {
		e := marks[3:4]
		piece := ""
		for _, letter := range "FSRET" {
			piece += e + string(letter) + e
		}
		if got, err := feed.Plain(marks, piece); got != marks || err != nil {
			t.Errorf("P11.3: Plain(%q, %q) = %q, %v", marks, piece, got, err)
		}
	}
	if got, err := feed.Plain("|^~\\&", "a\\S\\b\\X0A\\c\\E\\"); got != "a^b\nc\\" || err != nil {
		t.Errorf("P11.3: the third example: %q, %v", got, err)
	}
	if got, err := feed.Plain("|^~\\&", "a|b^c~d&e"); got != "a|b^c~d&e" || err != nil {
		t.Errorf("P11.3: marks in a piece: %q, %v", got, err)
	}
	for _, marks := range []string{"", "|", "|^~\\", "|^~\\&#", "|^~\\|", "||~\\&", "|^~~&", "|^~a&", "Z^~\\&", "|0~\\&", "|^9\\&", "|^~\\ ", "\x7f^~\\&", "|^~\\\x80", "|^~é", "|^\r\\&"} {
		if got, err := feed.Plain(marks, "a\\Q"); !is(err, api.ErrFeedHead, 0) || got != "" {
			t.Errorf("P11.3: marks %q: %q, %v", marks, got, err)
		}
	}
}
