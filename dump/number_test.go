package dump_test

import (
	"encoding/binary"
	"fmt"
	"math"
	"math/big"
	"math/rand"
	"strconv"
	"strings"
	"testing"

	"modality/api"
	"modality/dict"
)

var numberVRs = []api.VR{api.VRUS, api.VRSS, api.VRUL, api.VRSL, api.VRFL, api.VRFD}

// holdNumber holds one number's text against the model.
func holdNumber(t *testing.T, v api.VR, text string) {
	t.Helper()
	holdModel(t, "(0009,1001) "+dict.VRWord(v)+" "+text)
}

// TestNumberForms: all short texts of the characters that a number may have.
func TestNumberForms(t *testing.T) {
	t.Parallel()
	const characters = "019.e+-"
	var try func(text string, more int)
	try = func(text string, more int) {
		for _, c := range characters {
			longer := text + string(c)
			for _, v := range numberVRs {
				holdNumber(t, v, longer)
			}
			if more > 1 {
				try(longer, more-1)
			}
		}
	}
	try("", 5)
}

// TestNumberEdges: the last numbers of each kind, and those behind them.
func TestNumberEdges(t *testing.T) {
	for _, c := range []struct {
		vr          api.VR
		least, most int64
		size        int
	}{
		{api.VRUS, 0, 65535, 2}, {api.VRSS, -32768, 32767, 2}, {api.VRUL, 0, 4294967295, 4}, {api.VRSL, -2147483648, 2147483647, 4},
	} {
		ahead := "(0009,1001) " + dict.VRWord(c.vr) + " "
		for _, n := range []int64{c.least, c.least + 1, 0, 1, 10, c.most - 1, c.most} {
			wantNodes(t, ahead+strconv.FormatInt(n, 10), list(element(privateTag, c.vr, lowFirst(uint64(n), c.size))))
		}
		for _, text := range []string{
			strconv.FormatInt(c.least-1, 10), strconv.FormatInt(c.most+1, 10), "00", "01", "-00", "-01", "-0", "-", "--1", "1-", "1+1", "1.0", "1e1", "0.", "0e0",
			"18446744073709551616", "18446744073709551617", "-18446744073709551615", "9223372036854775808", "-9223372036854775809", strings.Repeat("9", 100000), "-" + strings.Repeat("9", 100000), strings.Repeat("0", 100000),
		} {
			wantUnread(t, ahead+text, api.ErrDumpValue, 15)
			wantUnread(t, ahead+"0\\"+text, api.ErrDumpValue, 17)
		}
	}
}

// TestAllShorts: every number of two bytes, there and back.
func TestAllShorts(t *testing.T) {
	t.Parallel()
	for n := range 65536 {
		bytes := lowFirst(uint64(n), 2)
		wantText(t, list(element(privateTag, api.VRUS, bytes), element(privateTag+1, api.VRSS, bytes)), fmt.Sprintf("(0009,1001) US %d\n(0009,1002) SS %d\n", n, int16(n)))
	}
}

// TestFloatForms: texts that are numbers and that are none.
func TestFloatForms(t *testing.T) {
	for text, want := range map[string]float64{
		"0": 0, "-0": math.Copysign(0, -1), "00": 0, "-000.000e-000": math.Copysign(0, -1), "1": 1, "-1": -1, "007": 7, "1.5": 1.5, "1.50": 1.5, "01.5e0": 1.5, "15e-1": 1.5, "0.15e1": 1.5, "0.15e+1": 1.5, "1.5e+00": 1.5,
		"150e-0002": 1.5, "1e3": 1000, "1e03": 1000, "-2.5e-1": -0.25, "1e-400": 0, "-1e-400": math.Copysign(0, -1), "0e400": 0, "-0e400": math.Copysign(0, -1), "0e99999999999999999999": 0, "0.000e-99999999999999999999": 0,
		"1e-99999999999999999999": 0, "-1e-99999999999999999999": math.Copysign(0, -1), "16777217": 16777217,
	} {
		wantNodes(t, "(0009,1001) FD "+text, list(element(privateTag, api.VRFD, lowFirst(math.Float64bits(want), 8))))
		wantNodes(t, "(0009,1001) FL "+text, list(element(privateTag, api.VRFL, lowFirst(uint64(math.Float32bits(float32(want))), 4))))
	}
	for _, text := range []string{
		"-", "--1", "1.", "1.e5", "-1.", "1e", "1e+", "1e-", "1.5e", "1e++1", "1e+-1", "1e1.5", "1e1e1", "1.5.5", "1-1", "1+1", "1e5-", "-.5", "-e5", "-+1", "1..5", "1ee5", "1e400", "-1e400", "1e99999999999999999999", "-1e99999999999999999999",
		"1" + strings.Repeat("0", 400), "2e308",
	} {
		wantUnread(t, "(0009,1001) FD "+text, api.ErrDumpValue, 15)
		wantUnread(t, "(0009,1001) FL "+text, api.ErrDumpValue, 15)
		wantUnread(t, "(0009,1001) FL 1\\"+text+"\\2", api.ErrDumpValue, 17)
	}
	wantUnread(t, "(0009,1001) FL 1e39", api.ErrDumpValue, 15)
	wantNodes(t, "(0009,1001) FD 1e39", list(element(privateTag, api.VRFD, lowFirst(math.Float64bits(1e39), 8))))
	// A number ends where another token begins.
	wantUnread(t, "(0009,1001) FL 1E5", api.ErrDumpTag, 16)
	wantUnread(t, "(0009,1001) FL 1_000", api.ErrDumpToken, 16)
	wantUnread(t, "(0009,1001) FL Inf", api.ErrDumpForm, 15)
	wantUnread(t, "(0009,1001) FL -Inf", api.ErrDumpValue, 15)
	wantUnread(t, "(0009,1001) FL 0x10", api.ErrDumpForm, 16)
}

// TestFloatNearest: the nearest number, of two that are as near the even one, also where a text says more digits than a number has.
func TestFloatNearest(t *testing.T) {
	t.Parallel()
	// Of the last number and what would be the next, half the way is no number any more.
	last32 := new(big.Float).SetPrec(400).SetMantExp(big.NewFloat(1<<25-1), 103)
	last64 := new(big.Float).SetPrec(2000).SetMantExp(new(big.Float).SetInt64(1<<54-1), 970)
	wantUnread(t, "(0009,1001) FL "+last32.Text('f', 0), api.ErrDumpValue, 15)
	wantUnread(t, "(0009,1001) FD "+last64.Text('f', 0), api.ErrDumpValue, 15)
	for _, c := range []struct{ text, bytes string }{
		{"340282356779733661637539395458142568447.9999999999999999999999", "\xFF\xFF\x7F\x7F"},
		{"-340282356779733661637539395458142568447", "\xFF\xFF\x7F\xFF"},
		{"1e-45", "\x01\x00\x00\x00"},
		{"7e-46", "\x00\x00\x00\x00"}, // just below half of the least one
		{"7.1e-46", "\x01\x00\x00\x00"},
		{"16777217", "\x00\x00\x80\x4B"},
		{"16777219", "\x02\x00\x80\x4B"},
		{"16777217.0000000000000000000000000000000000000001", "\x01\x00\x80\x4B"},
		// By way of a longer number this would be rounded twice.
		{"1.000000059604644775390625000000000000000001", "\x01\x00\x80\x3F"},
	} {
		wantNodes(t, "(0009,1001) FL "+c.text, list(element(privateTag, api.VRFL, c.bytes)))
	}
	r := rand.New(rand.NewSource(5))
	for range 3000 {
		f := math.Float32frombits(r.Uint32())
		for _, text := range nearHalf(float64(f), float64(math.Nextafter32(f, 0))) {
			holdNumber(t, api.VRFL, text)
		}
		d := math.Float64frombits(uint64(r.Int63n(1<<52)) | uint64(1023-60+r.Intn(120))<<52)
		for _, text := range nearHalf(d, math.Nextafter(d, 0)) {
			holdNumber(t, api.VRFD, text)
		}
	}
	for _, d := range []float64{5e-324, 1e-310, 2.2250738585072014e-308, math.MaxFloat64} {
		for _, text := range nearHalf(d, math.Nextafter(d, 0)) {
			holdNumber(t, api.VRFD, text)
		}
	}
}

// nearHalf gives texts of what lies half-way between two numbers, and a little above and below that.
func nearHalf(a, b float64) []string {
	if math.IsNaN(a) || math.IsInf(a, 0) {
		return nil
	}
	half := new(big.Float).SetPrec(2200).SetFloat64(a)
	half.Add(half, new(big.Float).SetFloat64(b)).Quo(half, big.NewFloat(2))
	exact := half.Text('e', 1100)
	digits, power, _ := strings.Cut(exact, "e")
	digits = strings.TrimRight(digits, "0") + "0"
	return []string{digits + "e" + power, digits + "0001e" + power, digits[:len(digits)-2] + "0e" + power}
}

// TestFloatFar: zeros may make up for an exponent, however far both go.
func TestFloatFar(t *testing.T) {
	zeros := func(n int) string { return strings.Repeat("0", n) }
	for _, n := range []int{9999, 10000, 99998, 99999, 100000, 100001, 999999, 1000000, 1048530} {
		for text, want := range map[string]float64{
			"0." + zeros(n) + "25e" + strconv.Itoa(n+1):     2.5,
			"-0." + zeros(n) + "25e+" + strconv.Itoa(n):     -0.25,
			"25" + zeros(n) + "e-" + strconv.Itoa(n+1):      2.5,
			"-" + zeros(n) + "25e-00000000001":              -2.5,
			"25." + zeros(n) + "e1":                         250,
			"0." + zeros(n) + "25":                          0,
			"0." + zeros(n) + "e" + strconv.Itoa(n+5000000): 0,
			"0" + zeros(n) + "e5":                           0,
			"25" + zeros(n) + "e-9999999":                   0,
			"25" + zeros(n) + "e-99999999999999999999":      0,
			"5e-" + zeros(n) + "1":                          0.5,
			"5e" + zeros(n) + "1":                           50,
		} {
			wantNodes(t, "(0009,1001) FD "+text, list(element(privateTag, api.VRFD, string(binary.LittleEndian.AppendUint64(nil, math.Float64bits(want))))))
		}
		wantUnread(t, "(0009,1001) FD 25"+zeros(n), api.ErrDumpValue, 15)
		wantUnread(t, "(0009,1001) FD 0."+zeros(n)+"25e9999999", api.ErrDumpValue, 15)
		wantUnread(t, "(0009,1001) FD 0."+zeros(n)+"25e99999999999999999999", api.ErrDumpValue, 15)
		wantUnread(t, "(0009,1001) FD 0."+zeros(n)+"25e"+strconv.Itoa(n+310), api.ErrDumpValue, 15)
		wantUnread(t, "(0009,1001) FD 25"+zeros(n)+"e-"+strconv.Itoa(n-308), api.ErrDumpValue, 15)
		wantUnread(t, "(0009,1001) FL 25"+zeros(n)+"e-"+strconv.Itoa(n-39), api.ErrDumpValue, 15)
	}
	for power := -330; power <= 310; power++ {
		holdNumber(t, api.VRFD, "17976931348623157e"+strconv.Itoa(power-16))
		holdNumber(t, api.VRFL, "34028235e"+strconv.Itoa(power-7))
	}
}
