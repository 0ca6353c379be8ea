package feed_test

import (
	"strings"
	"testing"

	"modality/api"
	"modality/feed"
)

// TestAck: the texts, by hand.
func TestAck(t *testing.T) {
	for _, c := range []struct{ control, code, words, want string }{
		{"42", "AA", "", "MSH|^~\\&|MODALITY||||||ACK|42|P|2.3.1\rMSA|AA|42|\r"},
		{"", "AR", "no header", "MSH|^~\\&|MODALITY||||||ACK||P|2.3.1\rMSA|AR||no header\r"},
		{"a|b^c~d\\e&f", "AE", "|^~\\& x", "MSH|^~\\&|MODALITY||||||ACK|a\\F\\b\\S\\c\\R\\d\\E\\e\\T\\f|P|2.3.1\rMSA|AE|a\\F\\b\\S\\c\\R\\d\\E\\e\\T\\f|\\F\\\\S\\\\R\\\\E\\\\T\\ x\r"},
		{strings.Repeat("|", 20), "AA", strings.Repeat("&", 200), "MSH|^~\\&|MODALITY||||||ACK|" + strings.Repeat("\\F\\", 20) + "|P|2.3.1\rMSA|AA|" + strings.Repeat("\\F\\", 20) + "|" + strings.Repeat("\\T\\", 200) + "\r"},
		{"  ", "AA", " ", "MSH|^~\\&|MODALITY||||||ACK|  |P|2.3.1\rMSA|AA|  | \r"},
	} {
		got, err := feed.Ack(c.control, c.code, c.words)
		if err != nil || string(got) != "\x0b"+c.want+"\x1c\r" {
			t.Errorf("P11.8: Ack(%q, %q, %q) = %q, %v", c.control, c.code, c.words, got, err)
		}
	}
}

// TestAckRefuses: each reason, and of several the first.
func TestAckRefuses(t *testing.T) {
	controls := map[string]bool{"": true, "42": true, strings.Repeat("x", 20): true, strings.Repeat("x", 21): false, "\x1f": false, "é": false, "\x7f": false}
	codes := map[string]bool{"AA": true, "AE": true, "AR": true, "": false, "aa": false, "CA": false, "AA ": false, "A": false}
	texts := map[string]api.Errno{"": 0, "w": 0, strings.Repeat("w", 200): 0, strings.Repeat("w", 201): api.ErrFeedLong, "\n": api.ErrFeedText, strings.Repeat("w", 200) + "\n": api.ErrFeedLong, strings.Repeat("é", 100): api.ErrFeedText, strings.Repeat("é", 101): api.ErrFeedLong}
	for control, isControl := range controls {
		for code, isCode := range codes {
			for text, reason := range texts {
				want, at := reason, 2
				switch {
				case !isControl:
					want, at = api.ErrFeedControl, 0
				case !isCode:
					want, at = api.ErrFeedValue, 1
				}
				got, err := feed.Ack(control, code, text)
				if !is(err, want, at) || (got == nil) != (err != nil) {
					t.Errorf("P11.8: Ack(%q, %q, %.20q of %d) = %q, %v", control, code, text, len(text), got, err)
				}
			}
		}
	}
	for c := range 256 {
		b := "a" + string([]byte{byte(c)})
		want := api.OK
		if c < 0x20 || c > 0x7e {
			want = api.ErrFeedText
		}
		if _, err := feed.Ack("", "AA", b); !is(err, want, 2) {
			t.Errorf("P11.8: the byte %02x in words: %v", c, err)
		}
		if want != api.OK {
			want = api.ErrFeedControl
		}
		if _, err := feed.Ack(b, "AA", ""); !is(err, want, 0) {
			t.Errorf("P11.8: the byte %02x in a control ID: %v", c, err)
		}
	}
}

// TestAckRead: an acknowledgement is a frame, whose message Split cuts and whose pieces Plain reads.
func TestAckRead(t *testing.T) {
	for _, control := range []string{"1", "a^b", "\\|~&"} {
		for _, told := range []string{"value", "a|b", "~\\^"} {
			b, err := feed.Ack(control, "AE", told)
			frames := feed.NewFramer().Take(b)
			if err != nil || len(frames) != 1 {
				t.Fatalf("P11.8: %q, %v", b, err)
			}
			l, err := feed.Split(frames[0].Text)
			if err != nil || len(l) != 2 {
				t.Fatalf("P11.8: %q, %v", frames[0].Text, err)
			}
			first, _ := feed.Plain("|^~\\&", l[0][10])
			second, _ := feed.Plain("|^~\\&", l[1][2])
			third, _ := feed.Plain("|^~\\&", l[1][3])
			if first != control || second != control || third != told || l[1][1] != "AE" {
				t.Errorf("P11.8: %q is read as %q, %q, %q", b, first, second, third)
			}
		}
	}
}

// TestWords: the words of every reason can be told in an acknowledgement.
func TestWords(t *testing.T) {
	for _, f := range faults() {
		d := cut(whole)
		f.turn(d)
		o, err := feed.Parse(d.text())
		if err == nil || o.Words != f.words || o.Words != modelWords(f.code) {
			t.Errorf("P11.8: %s: %q, %v", f.name, o.Words, err)
		}
		if b, err := feed.Ack(o.Control, o.Code, o.Words); err != nil || !strings.Contains(string(b), "MSA|"+f.ack+"|"+o.Control+"|"+f.words+"\r") {
			t.Errorf("P11.8: %s: %q, %v", f.name, b, err)
		}
	}
}
