package feed_test

import (
	"bytes"
	"math/rand"
	"regexp"
	"strings"
	"testing"

	"modality/api"
	"modality/feed"
)

var frameForm = regexp.MustCompile(`(?s)\x0b([^\x0b]*?)\x1c\r`)

// modelFrames reads a whole stream: its messages, and how many bytes wait at its end.
func modelFrames(stream string) (frames []api.FeedFrame, held int) {
	end := 0
	for _, m := range frameForm.FindAllStringSubmatchIndex(stream, -1) {
		text := stream[m[2]:m[3]]
		if len(text) > 16384 {
			frames = append(frames, api.FeedFrame{Text: text[:16384], Long: true})
		} else {
			frames = append(frames, api.FeedFrame{Text: text})
		}
		end = m[1]
	}
	begin := strings.LastIndexByte(stream[end:], 0x0b)
	if begin < 0 {
		return frames, 0
	}
	text := stream[end+begin+1:]
	rest := strings.TrimSuffix(text, "\x1c")
	return frames, min(len(rest), 16384) + len(text) - len(rest)
}

// wantFrames gives a stream to a framer, cut at these places, and holds what it tells against the second reader, behind each piece.
func wantFrames(t *testing.T, stream string, cuts ...int) {
	t.Helper()
	f := feed.NewFramer()
	told, from := 0, 0
	for _, to := range append(cuts, len(stream)) {
		got := f.Take([]byte(stream[from:to]))
		all, held := modelFrames(stream[:to])
		want := all[told:]
		if len(got) != len(want) || len(got) > 0 && !same(got, want) || len(got) == 0 && got != nil {
			t.Fatalf("P11.1: %.300q, %.300q: %s; want %s", stream[:from], stream[from:to], shown(got), shown(want))
		}
		if f.Held() != held {
			t.Fatalf("P11.1: %.300q: Held %d; want %d", stream[:to], f.Held(), held)
		}
		told, from = len(all), to
	}
}

func TestFrame(t *testing.T) {
	for _, text := range []string{"", "AB", "\x0b", "\x1c\r", "\xff\x00", strings.Repeat("x", 20000)} {
		if got := string(feed.Frame(text)); got != "\x0b"+text+"\x1c\r" {
			t.Errorf("P11.1: Frame(%.50q) = %.50q", text, got)
		}
	}
}

// TestFrameExample: the chapter's first example.
func TestFrameExample(t *testing.T) {
	f := feed.NewFramer()
	first, second, third := f.Take([]byte{0x0b, 0x41}), f.Take([]byte{0x42, 0x1c}), f.Take([]byte{0x0d, 0x0b})
	if first != nil || second != nil || !same(third, []api.FeedFrame{{Text: "AB"}}) || f.Held() != 0 {
		t.Errorf("P11.1: %v, %v, %v, Held %d", first, second, third, f.Held())
	}
}

// TestFramer: all short streams of the bytes that count, whole, cut once anywhere, and byte by byte.
func TestFramer(t *testing.T) {
	const bytes = "\x0b\x1c\rA"
	var walk func(stream string, left int)
	walk = func(stream string, left int) {
		every := []int{}
		for i := range len(stream) + 1 {
			wantFrames(t, stream, i)
			every = append(every, i)
		}
		wantFrames(t, stream, every...)
		if left == 0 {
			return
		}
		for _, c := range []byte(bytes) {
			walk(stream+string(rune(c)), left-1)
		}
	}
	walk("", 6)
	walk("\x0bA\x1c", 5)
}

// TestFramerBytes: every byte outside of a frame, in it, and behind the end's first byte.
func TestFramerBytes(t *testing.T) {
	for c := range 256 {
		b := string([]byte{byte(c)})
		for _, stream := range []string{b, b + "\x0bA\x1c\r", "\x0b" + b + "\x1c\r", "\x0b\x1c" + b + "\x1c\r", "\x0bA\x1c\r" + b + "\x0bB\x1c\r", "\x0b" + b + b} {
			for i := range len(stream) {
				wantFrames(t, stream, i)
			}
		}
	}
}

// TestFramerLong: texts at the limit and beyond, and an end's first byte around it.
func TestFramerLong(t *testing.T) {
	for n := api.MaxMessage - 3; n <= api.MaxMessage+4; n++ {
		text := strings.Repeat("0123456789abcdef", 1025)[:n]
		for _, inside := range []string{"", "\x1c", "\x1c\x1c", "\x1cx", "\x0bnew"} {
			stream := "\x0b" + text + inside + "\x1c\r\x0bAB\x1c\r\x0b"
			for cut := 16380; cut < len(stream); cut++ {
				wantFrames(t, stream, cut)
			}
			wantFrames(t, stream, 1, 2, 8000, 16384, 16385, 16386)
		}
	}
	long := "\x0b" + strings.Repeat("y", 100000) + "\x1c"
	wantFrames(t, long+"\r", 100, 16384, 50000, 100001, 100002)
	wantFrames(t, long+"\x0bz\x1c\r", 100002, 100003, 100004)
	got := feed.NewFramer().Take([]byte(long + "\r"))
	if want := []api.FeedFrame{{Text: strings.Repeat("y", 16384), Long: true}}; !same(got, want) {
		t.Errorf("P11.1: a text of 100000 bytes: %s", shown(got))
	}
}

// TestFramerTells: of frames with other bytes between just their texts are told, however they are cut (P11.9).
func TestFramerTells(t *testing.T) {
	r := rand.New(rand.NewSource(1))
	between := func(n int) string {
		b := make([]byte, n)
		for i := range b {
			if b[i] = byte(r.Intn(40)); b[i] == 0x0b {
				b[i] = 0x1c
			}
		}
		return string(b)
	}
	for range 3000 {
		var stream bytes.Buffer
		var want []api.FeedFrame
		for range r.Intn(5) {
			stream.WriteString(between(r.Intn(6)))
			text := between(r.Intn(12))
			if strings.Contains(text, "\x1c\r") || strings.HasSuffix(text, "\x1c") {
				text = "plain"
			}
			stream.Write(feed.Frame(text))
			want = append(want, api.FeedFrame{Text: text})
		}
		stream.WriteString(between(r.Intn(6)))
		f := feed.NewFramer()
		var got []api.FeedFrame
		for left := stream.Bytes(); len(left) > 0; {
			n := 1 + r.Intn(len(left))
			got = append(got, f.Take(left[:n])...)
			left = left[n:]
		}
		if !same(got, want) || f.Held() != 0 {
			t.Fatalf("P11.9: %q: %s, Held %d; want %s", stream.String(), shown(got), f.Held(), shown(want))
		}
	}
	for _, text := range []string{"", whole, strings.Repeat("x", api.MaxMessage), "\x1c\x1cA", "\r\x1c\n"} {
		if got := feed.NewFramer().Take(feed.Frame(text)); !same(got, []api.FeedFrame{{Text: text}}) {
			t.Errorf("P11.9: %.50q is told as %s", text, shown(got))
		}
	}
}

// TestFramerGarbage: long streams of any bytes, many frames begun and ended.
func TestFramerGarbage(t *testing.T) {
	r := rand.New(rand.NewSource(2))
	for range 300 {
		b := make([]byte, r.Intn(300))
		for i := range b {
			b[i] = "\x0b\x1c\r\n\x00\xffABC\x1c\r"[r.Intn(11)]
		}
		var cuts []int
		for at := 0; at < len(b); at += r.Intn(40) {
			cuts = append(cuts, at)
		}
		wantFrames(t, string(b), cuts...)
	}
}
