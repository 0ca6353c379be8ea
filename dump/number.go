package dump

import (
	"math"
	"strconv"
	"strings"

	"modality/api"
	"modality/dict"
)

// numberIn reads a number of so many bits, the low byte first; false, if there are not as many bytes.
func numberIn(value string, bits int) (uint64, bool) {
	var n uint64
	for i := range len(value) {
		n |= uint64(value[i]) << (8 * i)
	}
	return n, 8*len(value) == bits
}

// bytesOf lays a number of so many bits down, the low byte first.
func bytesOf(n uint64, bits int) string {
	var b []byte
	for ; bits > 0; bits -= 8 {
		b = append(b, byte(n))
		n >>= 8
	}
	return string(b)
}

func writeUnsigned(value string, bits int) (string, bool) {
	n, ok := numberIn(value, bits)
	return strconv.FormatUint(n, 10), ok
}

// readUnsigned takes a number only as it would be written, and so no zeros ahead.
func readUnsigned(token string, bits int) (string, bool) {
	n, err := strconv.ParseUint(token, 10, bits)
	return bytesOf(n, bits), err == nil && strconv.FormatUint(n, 10) == token
}

func writeSigned(value string, bits int) (string, bool) {
	n, ok := numberIn(value, bits)
	above := 64 - bits // of the sign: it goes to the top, so that it comes down into all of them
	return strconv.FormatInt(int64(n<<above)>>above, 10), ok
}

func readSigned(token string, bits int) (string, bool) {
	n, err := strconv.ParseInt(token, 10, bits)
	return bytesOf(uint64(n), bits), err == nil && strconv.FormatInt(n, 10) == token
}

// writeTag writes a tag, whose two halves lie in the bytes each by itself.
func writeTag(value string, bits int) (string, bool) {
	n, ok := numberIn(value, bits)
	return dict.PrintTag(api.Tag(swapped(uint32(n)))), ok
}

func readTag(token string, bits int) (string, bool) {
	t, err := dict.ParseTag(token)
	return bytesOf(uint64(swapped(uint32(t))), bits), err == nil
}

func swapped(n uint32) uint32 { return n<<16 | n>>16 }

// writeFloat writes a number that is finite.
func writeFloat(value string, bits int) (string, bool) {
	n, ok := numberIn(value, bits)
	f := math.Float64frombits(n)
	if bits == 32 {
		f = float64(math.Float32frombits(uint32(n)))
	}
	return strconv.FormatFloat(f, 'g', -1, bits), ok && !math.IsInf(f, 0) && !math.IsNaN(f)
}

func readFloat(token string, bits int) (string, bool) {
	plain, ok := plainDecimal(token)
	if !ok {
		return "", false
	}
	f, err := strconv.ParseFloat(plain, bits)
	if bits == 32 {
		return bytesOf(uint64(math.Float32bits(float32(f))), bits), err == nil
	}
	return bytesOf(math.Float64bits(f), bits), err == nil
}

const (
	farTold  = 2 * api.MaxDump // a power of ten that no digits of a text can make up for
	farPlain = 1000            // a place of the point beyond all that a VR's numbers reach
)

// plainDecimal writes a number as 0.DIGITSeN, with no zero ahead of the digits; false, if its text has not the form. The library could not be given the text as it stands: it lets go of an exponent's sixth digit, though as many zeros may make up for it.
func plainDecimal(text string) (string, bool) {
	unsigned, negative := strings.CutPrefix(text, "-")
	mantissa, told, raised := strings.Cut(unsigned, "e")
	ahead, behind, pointed := strings.Cut(mantissa, ".")
	if !isDigits(ahead) || pointed && !isDigits(behind) || raised && !isDigits(withoutSign(told)) {
		return "", false
	}
	power, _ := strconv.Atoi(told) // one that is beyond all numbers is told as the last of them
	digits := strings.TrimLeft(ahead+behind, "0")
	point := limited(power, farTold) + len(digits) - len(behind)
	plain := "0." + digits + "e" + strconv.Itoa(limited(point, farPlain))
	if negative {
		plain = "-" + plain
	}
	return plain, true
}

func isDigits(text string) bool { return text != "" && span(text, isDigit) == len(text) }

// withoutSign lets the one sign go that a power may have.
func withoutSign(power string) string {
	if power != "" && (power[0] == '+' || power[0] == '-') {
		return power[1:]
	}
	return power
}

// limited brings a number to the nearest one that is at most so far from 0.
func limited(n, far int) int { return min(max(n, -far), far) }
