package dict_test

import (
	"math/rand"
	"reflect"
	"strings"
	"testing"

	"modality/api"
	"modality/dict"
)

// wantSplit parts a value by the document's words.
func wantSplit(info api.VRInfo, value string) []string {
	if value == "" || info.Name == "" || info.Name == "SQ" {
		return nil
	}
	if !info.Multi {
		return []string{value}
	}
	list := []string{""}
	for i := range len(value) {
		last := len(list) - 1
		switch {
		case info.Text && value[i] == 92:
			list = append(list, "")
		case !info.Text && len(list[last]) == info.Unit:
			list = append(list, value[i:i+1])
		default:
			list[last] += value[i : i+1]
		}
	}
	return list
}

func TestSplit(t *testing.T) {
	infos := documentInfos(t)
	random := rand.New(rand.NewSource(7))
	values := []string{"", "\\", "\\\\", "a", "a\\b\\", "\\a", " a \\ b ", "a\x00\\b\x00", "ABCDE", "ABCDEFGH", "ABCDEFGHI", "ä\\ö", "\xff\\\xff"}
	for range 200 {
		b := make([]byte, random.Intn(20))
		for i := range b {
			b[i] = "\\\\a \x00\xff"[random.Intn(6)]
		}
		values = append(values, string(b))
	}
	for _, v := range append(allVRs(), noVRs...) {
		for _, value := range values {
			if got, want := dict.Split(v, value), wantSplit(infos[v], value); !reflect.DeepEqual(got, want) {
				t.Errorf("P3.7: Split(%d, %q) = %q, want %q", v, value, got, want)
			}
		}
	}
}

func TestJoinRefused(t *testing.T) {
	infos := documentInfos(t)
	for _, v := range append(noVRs, api.VRSQ) {
		for _, values := range [][]string{nil, {}, {""}, {"a"}, {"a", "b\\"}} {
			if got, err := dict.Join(v, values); got != "" || !is(err, api.ErrDictVR, 0) {
				t.Errorf("P3.7: Join(%d, %q) = %q, %v", v, values, got, err)
			}
		}
	}
	for v, info := range infos {
		unit := strings.Repeat("\\", info.Unit)
		for _, c := range []struct {
			values []string
			at     int
		}{{[]string{"a\\", "b"}, 0}, {[]string{"\\", ""}, 0}, {[]string{"", unit + "\\"}, 1}, {[]string{unit[1:], unit, unit, unit + "x\\"}, 0}} {
			want, at := api.ErrDictCount, 1
			switch {
			case v == api.VRSQ:
				continue
			case info.Multi && info.Text:
				want, at = api.ErrDictChar, firstWith(c.values, func(s string) bool { return strings.Contains(s, "\\") })
			case info.Multi:
				want, at = api.ErrDictLength, firstWith(c.values, func(s string) bool { return len(s) != info.Unit })
			}
			if got, err := dict.Join(v, c.values); got != "" || !is(err, want, at) {
				t.Errorf("P3.7: Join(%s, %q) = %q, %v, want %d at %d", info.Name, c.values, got, err, want, at)
			}
		}
	}
	for _, c := range []struct {
		v      api.VR
		values []string
		code   api.Errno
		at     int
	}{
		{api.VRLO, []string{"a", "b", "c\\", "\\"}, api.ErrDictChar, 2},
		{api.VRUS, []string{"ab", "cd", "", "e"}, api.ErrDictLength, 2},
		{api.VRUS, []string{""}, api.ErrDictLength, 0},
		{api.VRFD, []string{"12345678", "123456789"}, api.ErrDictLength, 1},
		{api.VRUN, []string{"", ""}, api.ErrDictCount, 1},
		{api.VRUT, []string{"a", "b", "c"}, api.ErrDictCount, 1},
	} {
		if got, err := dict.Join(c.v, c.values); got != "" || !is(err, c.code, c.at) {
			t.Errorf("P3.7: Join(%d, %q) = %q, %v", c.v, c.values, got, err)
		}
	}
}

func firstWith(values []string, has func(string) bool) int {
	for i, s := range values {
		if has(s) {
			return i
		}
	}
	return -1
}

func TestJoin(t *testing.T) {
	for v, info := range documentInfos(t) {
		unit := strings.Repeat("\\", info.Unit)
		cases := []struct {
			values []string
			want   string
		}{{nil, ""}, {[]string{}, ""}}
		switch {
		case v == api.VRSQ:
			continue
		case info.Multi && info.Text:
			cases = append(cases, []struct {
				values []string
				want   string
			}{{[]string{""}, ""}, {[]string{"", ""}, "\\"}, {[]string{"a", "", "b "}, "a\\\\b "}, {[]string{"ä"}, "ä"}}...)
		case info.Multi:
			cases = append(cases, []struct {
				values []string
				want   string
			}{{[]string{unit}, unit}, {[]string{unit, unit, unit}, unit + unit + unit}}...)
		default:
			cases = append(cases, []struct {
				values []string
				want   string
			}{{[]string{""}, ""}, {[]string{"a\\b"}, "a\\b"}, {[]string{"abc"}, "abc"}}...)
		}
		for _, c := range cases {
			if got, err := dict.Join(v, c.values); got != c.want || err != nil {
				t.Errorf("P3.7: Join(%s, %q) = %q, %v", info.Name, c.values, got, err)
			}
		}
	}
}
