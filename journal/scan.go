package journal

import "modality/api"

// Scan reads a slot's bytes as far as they are whole (P2.4).
func Scan(data []byte) (api.JournalScan, error) {
	gen, count, size, ok := readHead(data)
	if !ok {
		return api.JournalScan{}, refusal(0, api.ErrJournalForm)
	}
	rest := data[headSize:]
	base, baseSize := readFrames(rest[:min(uint64(size), uint64(len(rest)))])
	if len(base) != count || uint64(baseSize) != uint64(size) {
		return api.JournalScan{}, refusal(0, api.ErrJournalForm)
	}
	rest = rest[baseSize:]
	records, recordsSize := readFrames(rest)
	return api.JournalScan{
		Gen:     gen,
		Base:    base,
		Records: records,
		Good:    headSize + baseSize + recordsSize,
	}, nil
}

// readHead gives the generation, the number of the base's bodies, and the bytes of their frames.
func readHead(data []byte) (gen uint64, count int, size uint32, ok bool) {
	head, ok := summed(data, headSize-sumSize)
	if !ok || string(head[:magicSize]) != slotMagic {
		return 0, 0, 0, false
	}
	gen = uint64(get32(head[4:])) | uint64(get32(head[8:]))<<32
	bodies := get32(head[12:])
	if gen == 0 || bodies > api.MaxBase {
		return 0, 0, 0, false
	}
	return gen, int(bodies), get32(head[16:]), true
}

// readFrames gives the bodies of the frames numbered from 0 on, up to the first place where none is whole, and how many bytes these frames have.
func readFrames(data []byte) (bodies [][]byte, size int) {
	for {
		body, ok := readFrame(data[size:], uint32(len(bodies)))
		if !ok {
			return bodies, size
		}
		bodies = append(bodies, append([]byte(nil), body...))
		size += frameSize + len(body)
	}
}

// readFrame gives the body of the frame of that number with which the data begin, as a piece of the data.
func readFrame(data []byte, number uint32) ([]byte, bool) {
	lead, ok := summed(data, leadSize)
	if !ok || lead[0] != frameMark || get32(lead[1:]) != number {
		return nil, false
	}
	size := get32(lead[5:])
	if size > api.MaxRecord {
		return nil, false
	}
	return summed(data[leadSize+sumSize:], int(size))
}

// summed gives the first n bytes, if they are there with their sum behind them.
func summed(data []byte, n int) ([]byte, bool) {
	if len(data) < n+sumSize || get32(data[n:]) != Sum(data[:n]) {
		return nil, false
	}
	return data[:n], true
}
