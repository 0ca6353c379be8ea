package dataset_test

import (
	"math/rand"
	"slices"
	"testing"

	"modality/api"
	"modality/dataset"
	"modality/dict"
)

// holdDecode holds Decode against the model, and what it answers against layer 3.
func holdDecode(t *testing.T, b []byte, s api.Syntax) api.Errno {
	t.Helper()
	nodes, code, at := modelDecode(b, s)
	if code != api.OK {
		wantUnread(t, b, s, code, at)
		return code
	}
	wantNodes(t, b, s, nodes)
	if err := dict.Formed(nodes); err != nil {
		t.Fatalf("P6.3: % .200X in syntax %d is no well-formed data set: %v", b, s, err)
	}
	return code
}

// TestDecodePieces reads every list of a few heads, with and without what should be behind them.
func TestDecodePieces(t *testing.T) {
	t.Parallel()
	for s, pieces := range map[api.Syntax][]string{
		api.Implicit: {
			"08 00 60 00 00 00 00 00", "08 00 61 00 02 00 00 00 41 20", openI, "40 00 00 01 08 00 00 00", "40 00 00 01 10 00 00 00", "19 00 01 10 FF FF FF FF",
			item0, itemO, "FE FF 00 E0 08 00 00 00", itemE, seqE, "08 00 00 00 00 00 00 00",
		},
		api.Explicit: {
			"08 00 60 00 43 53 00 00", "08 00 60 00 00 00 00 00", openE, openU, openI, "40 00 00 01 55 4E 00 00 08 00 00 00", "19 00 01 10 55 4E 00 00 FF FF FF FF",
			item0, itemO, "FE FF 00 E0 08 00 00 00", itemE, seqE,
		},
	} {
		var parts [][]byte
		for _, p := range pieces {
			parts = append(parts, raw(t, p))
		}
		taken := 0
		var all func(b []byte, left int)
		all = func(b []byte, left int) {
			if holdDecode(t, b, s) == api.OK {
				taken++
			}
			for _, p := range parts {
				if left > 0 {
					all(append(b[:len(b):len(b)], p...), left-1)
				}
			}
		}
		all(nil, 5)
		if taken < 50 {
			t.Errorf("of all these bytes only %d are a data set", taken)
		}
	}
}

// TestDecodeSpoiled reads data sets in all forms in which a few bytes are other ones.
func TestDecodeSpoiled(t *testing.T) {
	t.Parallel()
	r := rand.New(rand.NewSource(63))
	seen := map[api.Errno]int{}
	for range 60000 {
		s := bothSyntaxes[r.Intn(2)]
		b := spoiled(r, inSomeForm(r, someSet(r), s))
		seen[holdDecode(t, b, s)]++
		holdDecode(t, b, api.Implicit+api.Explicit-s)
	}
	for _, code := range []api.Errno{api.OK, api.ErrSetLong, api.ErrSetShort, api.ErrSetTag, api.ErrSetVR, api.ErrSetLength} {
		if seen[code] < 100 {
			t.Errorf("number %d was met only %d times", code, seen[code])
		}
	}
}

// spoiled gives bytes with a few of them changed, left out, added or told twice.
func spoiled(r *rand.Rand, b []byte) []byte {
	for range r.Intn(4) {
		at := r.Intn(len(b) + 1)
		upto := min(len(b), at+[]int{1, 1, 2, 4, 8, 10, 16, 100}[r.Intn(8)])
		switch r.Intn(5) {
		case 0:
			b = slices.Delete(b, at, upto)
		case 1:
			b = slices.Insert(b, at, slices.Clone(b[at:upto])...)
		case 2:
			b = b[:at]
		default:
			for i := at; i < upto && r.Intn(3) > 0; i++ {
				b[i] = []byte{0, 1, 2, 8, 0xFE, 0xFF, 0x0D, 0xDD, 0xE0, b[i] + 1, b[i] - 1, b[i] + 2, b[i] - 2, b[i] ^ 0x80, byte(r.Intn(256))}[r.Intn(15)]
			}
		}
	}
	return b
}

// TestDecodeCut reads every beginning of data sets.
func TestDecodeCut(t *testing.T) {
	t.Parallel()
	r := rand.New(rand.NewSource(64))
	for range 120 {
		for _, s := range bothSyntaxes {
			b := inSomeForm(r, someSet(r), s)
			for size := range b {
				holdDecode(t, b[:size], s)
			}
		}
	}
}

// TestDecodeForms: in which form the bytes were is not seen (P6.5).
func TestDecodeForms(t *testing.T) {
	t.Parallel()
	r := rand.New(rand.NewSource(65))
	for range 12000 {
		nodes := someSet(r)
		if len(nodes) > api.MaxNodes {
			continue
		}
		wantNodes(t, inSomeForm(r, nodes, api.Explicit), api.Explicit, nodes)
		implied, err := dataset.Implied(nodes)
		if err != nil {
			t.Fatalf("P6.4: %s: %v", shown(nodes), err)
		}
		wantNodes(t, inSomeForm(r, implied, api.Implicit), api.Implicit, implied)
	}
}
