package dimse

import "modality/api"

// ahead is how many of a P-DATA-TF's bytes stand ahead of a fragment: its PDV's length, the context's number, a byte of bits.
const ahead = 6

// Cut takes a message apart into P-DATA-TFs of at most so much length (P10.4).
func Cut(m api.Message, most int) ([]api.Pdu, error) {
	if most != 0 && most < api.MinPdu {
		return nil, refusal(0, api.ErrDimseMax)
	}
	if m.Context%2 == 0 {
		return nil, refusal(0, api.ErrDimseContext)
	}
	command, err := EncodeCmd(m.Cmd)
	if err != nil {
		return nil, err
	}
	if !m.Cmd.HasData && len(m.Data) > 0 {
		return nil, refusal(0, api.ErrDimseData)
	}
	if len(m.Data) > api.MaxSet {
		return nil, refusal(api.MaxSet, api.ErrDimseLong)
	}
	size := fragmentSize(most)
	pdus := appendFragments(nil, api.Pdv{Context: m.Context, Command: true}, command, size)
	if m.Cmd.HasData {
		pdus = appendFragments(pdus, api.Pdv{Context: m.Context}, m.Data, size)
	}
	return pdus, nil
}

// fragmentSize tells how many bytes a fragment has at most: an even number.
func fragmentSize(most int) int {
	if most == 0 || most > api.MaxPdu {
		most = api.MaxPdu
	}
	return (most - ahead) &^ 1
}

// appendFragments cuts one part of a message; the last fragment is there even if it has no bytes.
func appendFragments(pdus []api.Pdu, v api.Pdv, part []byte, size int) []api.Pdu {
	for !v.Last {
		n := min(size, len(part))
		v.Last = n == len(part)
		v.Data = copied(part[:n])
		pdus = append(pdus, api.Pdu{Kind: api.PduData, Values: []api.Pdv{v}})
		part = part[n:]
	}
	return pdus
}

// copied is the bytes in memory of their own; none are nil.
func copied(b []byte) []byte {
	if len(b) == 0 {
		return nil
	}
	c := make([]byte, len(b))
	copy(c, b)
	return c
}
