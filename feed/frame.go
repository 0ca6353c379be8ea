package feed

import "modality/api"

// The bytes of a frame.
const (
	frameBegin  = 0x0B
	frameEnd    = 0x1C
	frameReturn = 0x0D // behind frameEnd
)

// The states of a framer. The zero Framer is none.
const (
	noFramer = iota
	isOutside
	isInText
	isAtEnd // a frameEnd waits for what comes behind it
)

// Framer cuts the feed's bytes into messages.
type Framer struct {
	state int
	text  []byte // of the frame that has begun, as far as it is kept
	long  bool   // the text had more
}

// NewFramer begins a feed (P11.1).
func NewFramer() *Framer { return &Framer{state: isOutside} }

// Take takes bytes that came, and tells the messages that they complete (P11.1).
func (f *Framer) Take(b []byte) []api.FeedFrame {
	if f == nil || f.state == noFramer {
		return nil
	}
	var told []api.FeedFrame
	next := 0 // the byte that has not been taken
	switch f.state {
	case isInText:
		goto text
	case isAtEnd:
		goto end
	}
outside:
	f.drop(isOutside)
	if next == len(b) {
		return told
	}
	next++
	if b[next-1] != frameBegin {
		goto outside
	}
begun:
	f.drop(isInText)
text:
	f.state = isInText
	if next == len(b) {
		return told
	}
	next++
look:
	switch b[next-1] {
	case frameBegin:
		goto begun
	case frameEnd:
		goto end
	}
	f.keep(b[next-1])
	goto text
end:
	f.state = isAtEnd
	if next == len(b) {
		return told
	}
	next++
	if b[next-1] == frameReturn {
		told = append(told, api.FeedFrame{Text: string(f.text), Long: f.long})
		goto outside
	}
	f.keep(frameEnd)
	goto look
}

// drop lets go what was read of a frame.
func (f *Framer) drop(state int) { *f = Framer{state: state} }

// keep puts a byte behind the text, if there is room for it.
func (f *Framer) keep(c byte) {
	if len(f.text) == api.MaxMessage {
		f.long = true
		return
	}
	f.text = append(f.text, c)
}

// Held tells how many bytes wait (P11.1).
func (f *Framer) Held() int {
	switch {
	case f == nil:
		return 0
	case f.state == isAtEnd:
		return len(f.text) + 1
	}
	return len(f.text)
}

// Frame puts a message between its frame's bytes (P11.1).
func Frame(text string) []byte {
	b := make([]byte, 0, len(text)+3)
	b = append(b, frameBegin)
	b = append(b, text...)
	return append(b, frameEnd, frameReturn)
}
