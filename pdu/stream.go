package pdu

import (
	"errors"

	"modality/api"
)

// Stream cuts bytes into PDUs. The zero Stream is a dead one.
type Stream struct {
	lives bool
	held  []byte
	told  int // bytes ahead of held that were told, and may still take memory
}

// NewStream begins a stream (P8.5).
func NewStream() *Stream { return &Stream{lives: true} }

// Take takes bytes that came (P8.5).
func (s *Stream) Take(b []byte) {
	if s != nil && s.lives {
		s.held = append(s.held, b...)
	}
}

// Next tells the next PDU, or that there is none, or why the stream is dead (P8.5).
func (s *Stream) Next() (api.Pdu, int, error) {
	if s == nil || !s.lives {
		return api.Pdu{}, api.PduDead, nil
	}
	if len(s.held) < headSize {
		return api.Pdu{}, api.PduNone, nil
	}
	size, err := wholeSize(s.held)
	if err == nil && len(s.held) < size {
		return api.Pdu{}, api.PduNone, nil
	}
	var p api.Pdu
	if err == nil {
		p, err = Decode(s.held[:size])
	}
	if err != nil {
		*s = Stream{}
		return api.Pdu{}, verdict(err), err
	}
	s.drop(size)
	return p, api.PduWhole, nil
}

// Held tells how many bytes wait (P8.5).
func (s *Stream) Held() int {
	if s == nil {
		return 0
	}
	return len(s.held)
}

// wholeSize tells how many bytes the first PDU has in all; those behind its head need not be there yet.
func wholeSize(b []byte) (size int, err error) {
	defer func() {
		if s, ok := recover().(stop); ok {
			size, err = 0, refusal(s.at, s.reason)
		}
	}()
	_, length := readHead(b)
	return headSize + length, nil
}

func verdict(err error) int {
	if errors.Is(err, api.ErrPduKind) {
		return api.PduUnknown
	}
	return api.PduInvalid
}

// drop lets the first bytes go. What is left moves into new memory once less is left than was told: so old bytes are not kept, and on the whole each byte is moved seldom.
func (s *Stream) drop(size int) {
	s.held = s.held[size:]
	s.told += size
	if s.told > len(s.held) {
		s.held, s.told = fresh(s.held), 0
	}
}
