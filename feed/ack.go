package feed

import "modality/api"

// Ack writes a framed acknowledgement (P11.8).
func Ack(control, code, words string) ([]byte, error) {
	switch {
	case !isControl(control):
		return nil, refusal(0, api.ErrFeedControl)
	case code != codeTaken && code != codeError && code != codeReject:
		return nil, refusal(1, api.ErrFeedValue)
	case len(words) > api.MaxWords:
		return nil, refusal(2, api.ErrFeedLong)
	case !isPrintable(words):
		return nil, refusal(2, api.ErrFeedText)
	}
	id := escaped(control)
	return Frame("MSH|^~\\&|MODALITY||||||ACK|" + id + "|P|2.3.1\rMSA|" + code + "|" + id + "|" + escaped(words) + "\r"), nil
}
