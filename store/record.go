package store

import (
	"bytes"

	"modality/api"
	"modality/dataset"
)

// The bytes of a record's numbers.
const (
	byteSize  = 1
	shortSize = 2 // also of a text's length
	dataSize  = 4
)

// Encode lays a mutation down (P12.3).
func Encode(m api.Mutation) ([]byte, error) {
	if err := Formed(m); err != nil {
		return nil, err
	}
	return bodyOf(m).lay(nil), nil
}

// Decode reads a mutation (P12.4).
func Decode(b []byte) (api.Mutation, error) {
	x, err := readBody(b)
	if err != nil {
		return api.Mutation{}, err
	}
	return x.mutation(), nil
}

func readBody(b []byte) (body, error) {
	r := &reader{bytes: b, bad: noFlaw}
	x := r.body()
	if r.at < len(b) {
		r.fail(r.at)
	}
	if r.bad != noFlaw {
		return nil, refusal(r.bad, api.ErrStoreForm)
	}
	if Formed(x.mutation()) != nil {
		return nil, refusal(0, api.ErrStoreMutation)
	}
	return x, nil
}

// reader goes through a record's bytes. Behind the first thing that can't be read all is zero, so that nobody has to ask ahead of the end.
type reader struct {
	bytes []byte
	at    int
	bad   int // where that thing begins, or noFlaw
}

// fail keeps the first place alone.
func (r *reader) fail(at int) {
	if r.bad == noFlaw {
		r.bad = at
	}
}

// take cuts bytes off; from is where the thing begins that they are of.
func (r *reader) take(n, from int) []byte {
	if n < 0 || n > len(r.bytes)-r.at {
		r.fail(from)
	}
	if r.bad != noFlaw {
		return nil
	}
	cut := r.bytes[r.at : r.at+n]
	r.at += n
	return cut
}

func (r *reader) number(size int) int {
	number := 0
	for i, part := range r.take(size, r.at) {
		number |= int(part) << (8 * i)
	}
	return number
}

func (r *reader) text() string {
	from := r.at
	return string(r.take(r.number(shortSize), from))
}

// data reads a data set, in the one form that Encode gives.
func (r *reader) data() []api.Node {
	from := r.at
	raw := r.take(r.number(dataSize), from)
	nodes, err := dataset.Decode(raw, api.Implicit)
	again, _ := dataset.Encode(nodes, api.Implicit)
	if err != nil || !bytes.Equal(raw, again) {
		r.fail(from + dataSize)
	}
	return nodes
}

func (r *reader) body() body {
	switch r.number(byteSize) {
	case api.MStep:
		control := r.text()
		return stepsBody{control, readList(r, byteSize, r.step)}
	case api.MGone:
		control := r.text()
		return goneBody{control, readList(r, byteSize, r.text)}
	case api.MPerf:
		perf := r.perf()
		return perfBody{perf, readList(r, shortSize, r.move)}
	case api.MBase:
		return baseBody{r.text()}
	}
	r.fail(0)
	return baseBody{}
}

// readList reads how many there are, and these.
func readList[T any](r *reader, size int, read func() T) []T {
	var list []T
	for range r.number(size) {
		list = append(list, read())
	}
	return list
}

func (r *reader) step() api.Step {
	var texts [textCount]string
	for field := range texts {
		texts[field] = r.text()
	}
	return stepOf(texts, r.number(byteSize))
}

func (r *reader) perf() api.Perf {
	uid := r.text()
	state := r.number(byteSize)
	return api.Perf{UID: uid, State: state, Data: r.data()}
}

func (r *reader) move() api.Move {
	id := r.text()
	return api.Move{ID: id, Status: r.number(byteSize)}
}

// putNumber lays so many bytes of a number down, the low one first.
func putNumber(b []byte, size, number int) []byte {
	for range size {
		b = append(b, byte(number))
		number >>= 8
	}
	return b
}

func putText(b []byte, text string) []byte {
	return append(putNumber(b, shortSize, len(text)), text...)
}
