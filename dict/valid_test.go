package dict_test

import (
	"math/rand"
	"strings"
	"testing"

	"modality/api"
	"modality/dict"
)

func TestValidSaid(t *testing.T) {
	long := strings.Repeat
	for _, c := range []struct {
		v     api.VR
		value string
		place int // -1: it may be; -2: the fault is the value's own
		code  api.Errno
		at    int
	}{
		{api.VRDS, "", -1, 0, 0}, {api.VRDS, "1", -1, 0, 0}, {api.VRDS, "1\\2", -1, 0, 0}, {api.VRDS, "1\\x", 1, api.ErrDictChar, 0}, {api.VRDS, "x\\y", 0, api.ErrDictChar, 0}, {api.VRDS, "1\\\\2\\3x", 3, api.ErrDictChar, 1}, {api.VRDS, "\\\\", -1, 0, 0}, {api.VRDS, "1\\.", 1, api.ErrDictForm, 0},
		{api.VRSH, long("x", 16) + "\\" + long("x", 17), 1, api.ErrDictLength, 16}, {api.VRLT, "a\\b", -1, 0, 0}, {api.VRLT, "a\x01", 0, api.ErrDictChar, 1}, {api.VRUT, long("x", 65534), -1, 0, 0}, {api.VRUT, long("x", 65535), -2, api.ErrDictLength, 65534},
		{api.VRUS, "ABCD", -1, 0, 0}, {api.VRUS, "ABC", 1, api.ErrDictLength, 1}, {api.VRAT, "ABCDE", 1, api.ErrDictLength, 1}, {api.VRAT, "ABCDEF", 1, api.ErrDictLength, 2}, {api.VROB, "ABC", 0, api.ErrDictLength, 3}, {api.VRUN, "AB", -1, 0, 0}, {api.VRUS, long("x", 65534), -1, 0, 0}, {api.VRUS, long("x", 65536), -2, api.ErrDictLength, 65534}, {api.VRLO, long("\\", 65534), -1, 0, 0}, {api.VRLO, long("\\", 65535), -2, api.ErrDictLength, 65534},
		{api.VRSQ, "", -2, api.ErrDictVR, 0}, {api.VRSQ, "x", -2, api.ErrDictVR, 0}, {api.VRItem, "", -2, api.ErrDictVR, 0}, {api.VRNone, long("x", 65535), -2, api.ErrDictVR, 0}, {-7, "x", -2, api.ErrDictVR, 0},
	} {
		err := dict.Valid(c.v, c.value)
		if !(c.place == -1 && err == nil || c.place == -2 && is(err, c.code, c.at) || c.place >= 0 && isWithin(err, c.place, c.code, c.at)) {
			t.Errorf("P3.9: Valid(%d, %.40q) = %v", c.v, c.value, err)
		}
	}
}

// wantValid looks at a value by Split and Check.
func wantValid(v api.VR, value string) (place int, fault error) {
	for i, s := range dict.Split(v, value) {
		if err := dict.Check(v, s); err != nil {
			return i, err
		}
	}
	return -1, nil
}

func TestValidRandom(t *testing.T) {
	random := rand.New(rand.NewSource(9))
	marks := "01.\\\\A ^=é\x01"
	for range 20000 {
		b := make([]byte, random.Intn(24))
		for i := range b {
			b[i] = marks[random.Intn(len(marks))]
		}
		all := allVRs()
		v, value := all[random.Intn(len(all))], string(b)
		if v == api.VRSQ {
			continue
		}
		place, want := wantValid(v, value)
		got, _ := dict.Valid(v, value).(*api.Fault)
		if (want == nil) != (got == nil) || got != nil && (got.Layer != "dict" || got.At != place || got.Err.Error() != want.Error()) {
			t.Errorf("P3.9: Valid(%d, %q) = %v, want %v at %d", v, value, got, want, place)
		}
	}
}

func TestFits(t *testing.T) {
	const (
		spacing = 0x00280030 // DS 2
		area    = 0x00400303 // US 1-2
		kind    = 0x00080008 // CS 2-n
		names   = 0x00081070 // PN 1-n
		patient = 0x00100020 // LO 1
		overlay = 0x60120050 // SS 2, in one of the sixteen groups
		unknown = 0x00190001
	)
	for _, c := range []struct {
		t     api.Tag
		v     api.VR
		value string
		code  api.Errno
		at    int
	}{
		{spacing, api.VRDS, "", 0, 0}, {spacing, api.VRDS, "1", api.ErrDictCount, 1}, {spacing, api.VRDS, "1\\2", 0, 0}, {spacing, api.VRDS, "1\\2\\3", api.ErrDictCount, 3}, {spacing, api.VRDS, "x", api.ErrDictCount, 1}, {spacing, api.VRDS, "\\", 0, 0},
		{spacing, api.VRLT, "1\\2", api.ErrDictCount, 1}, {spacing, api.VRUS, "ABCD", 0, 0}, {spacing, api.VRUS, "ABC", 0, 1},
		{area, api.VRUS, "AB", 0, 0}, {area, api.VRUS, "ABCD", 0, 0}, {area, api.VRUS, "ABCDEF", api.ErrDictCount, 3}, {area, api.VRUS, "ABCDE", api.ErrDictCount, 3},
		{kind, api.VRCS, "A", api.ErrDictCount, 1}, {kind, api.VRCS, "A\\B", 0, 0}, {kind, api.VRCS, strings.Repeat("A\\", 300) + "A", 0, 0},
		{names, api.VRPN, "A", 0, 0}, {names, api.VRPN, "A\\B\\C\\D", 0, 0}, {patient, api.VRLO, "A", 0, 0}, {patient, api.VRLO, "A\\B", api.ErrDictCount, 2}, {patient, api.VRLO, "A\\", api.ErrDictCount, 2},
		{overlay, api.VRSS, "ABCD", 0, 0}, {overlay, api.VRSS, "AB", api.ErrDictCount, 1}, {overlay + 0x10000, api.VRSS, "AB", 0, 0}, {unknown, api.VRDS, "1", 0, 0}, {unknown, api.VRDS, "1\\2\\3", 0, 0},
		{patient, api.VRSQ, "", api.ErrDictVR, 0}, {patient, api.VRItem, "x\\y", api.ErrDictVR, 0}, {unknown, api.VRNone, "", api.ErrDictVR, 0}, {patient, -1, strings.Repeat("x\\", 40000), api.ErrDictVR, 0},
		{patient, api.VRLO, strings.Repeat("\\", 65535), api.ErrDictLength, 65534}, {unknown, api.VRUT, strings.Repeat("x", 65535), api.ErrDictLength, 65534}, {patient, api.VRLO, strings.Repeat("\\", 65534), api.ErrDictCount, 65535},
	} {
		err := dict.Fits(c.t, c.v, c.value)
		if c.at == 1 && c.code == 0 { // three bytes of a US: the count is right, the last value is not
			if !isWithin(err, 1, api.ErrDictLength, 1) {
				t.Errorf("P3.9: Fits(%08X, %d, %q) = %v", c.t, c.v, c.value, err)
			}
		} else if !is(err, c.code, c.at) {
			t.Errorf("P3.9: Fits(%08X, %d, %.40q) = %v, want %d at %d", c.t, c.v, c.value, err, c.code, c.at)
		}
	}
	if err := dict.Fits(spacing, api.VRDS, "1\\x"); !isWithin(err, 1, api.ErrDictChar, 0) {
		t.Errorf("P3.9: %v", err)
	}
	if err := dict.Fits(unknown, api.VRDS, "1\\2\\x"); !isWithin(err, 2, api.ErrDictChar, 0) {
		t.Errorf("P3.9: %v", err)
	}
}

// TestFitsAll gives every attribute every number of values up to five.
func TestFitsAll(t *testing.T) {
	for _, e := range documentEntries(t) {
		for n := range 6 {
			value := strings.TrimSuffix(strings.Repeat("1\\", n), "\\")
			want := api.OK
			if n > 0 && (n < e.Least || e.Most > 0 && n > e.Most) {
				want = api.ErrDictCount
			}
			if err := dict.Fits(e.Tag, api.VRLO, value); !is(err, want, n) {
				t.Errorf("P3.9: Fits(%s, %q) = %v", e.Keyword, value, err)
			}
		}
	}
}
