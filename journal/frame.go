package journal

import "modality/api"

// How many bytes the parts of a slot have.
const (
	magicSize = 4
	sumSize   = 4
	headSize  = magicSize + 8 + 4 + 4 + sumSize
	leadSize  = 1 + 4 + 4            // of a frame: ahead of its first sum
	frameSize = leadSize + 2*sumSize // of a frame without its body
	slotMagic = "\x4d\x57\x4a\x01"   // begins a slot
	frameMark = 0xa5                 // begins a frame
)

// Frame gives a body as it lies in a slot (P2.2).
func Frame(number uint32, body []byte) ([]byte, error) {
	if len(body) > api.MaxRecord {
		return nil, refusal(0, api.ErrJournalLong)
	}
	return addFrame(make([]byte, 0, frameSize+len(body)), number, body), nil
}

// addFrame lays a frame behind the bytes; the body is none that is too long.
func addFrame(to []byte, number uint32, body []byte) []byte {
	start := len(to)
	to = append(to, frameMark)
	to = add32(to, number)
	to = add32(to, uint32(len(body)))
	to = add32(to, Sum(to[start:]))
	to = append(to, body...)
	return add32(to, Sum(body))
}

// Head gives the beginning of a slot (P2.3).
func Head(gen uint64, base [][]byte) ([]byte, error) {
	if gen == 0 {
		return nil, refusal(0, api.ErrJournalGen)
	}
	if err := checkBase(base); err != nil {
		return nil, err
	}
	return slotBytes(gen, base), nil
}

func checkBase(base [][]byte) error {
	if len(base) > api.MaxBase {
		return refusal(0, api.ErrJournalBase)
	}
	for i, body := range base {
		if len(body) > api.MaxRecord {
			return refusal(i, api.ErrJournalLong)
		}
	}
	return nil
}

// slotBytes is Head of what may be.
func slotBytes(gen uint64, base [][]byte) []byte {
	size := framesSize(base)
	out := make([]byte, 0, headSize+size)
	out = append(out, slotMagic...)
	out = add32(out, uint32(gen))
	out = add32(out, uint32(gen>>32))
	out = add32(out, uint32(len(base)))
	out = add32(out, uint32(size))
	out = add32(out, Sum(out))
	for i, body := range base {
		out = addFrame(out, uint32(i), body)
	}
	return out
}

func framesSize(bodies [][]byte) int {
	size := 0
	for _, body := range bodies {
		size += frameSize + len(body)
	}
	return size
}

func add32(to []byte, n uint32) []byte {
	return append(to, byte(n), byte(n>>8), byte(n>>16), byte(n>>24))
}

func get32(from []byte) uint32 {
	return uint32(from[0]) | uint32(from[1])<<8 | uint32(from[2])<<16 | uint32(from[3])<<24
}
