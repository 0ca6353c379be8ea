package value_test

import (
	"math/rand"
	"strings"
	"testing"

	"modality/api"
	"modality/value"
)

// matching is what must come of a key and a value.
type matching struct {
	vr         api.VR
	key, value string
	want       bool
	code       api.Errno
	at         int
}

// wantMatches asks Match, and Key, which must refuse just so.
func wantMatches(t *testing.T, promise string, list []matching) {
	t.Helper()
	for _, c := range list {
		if got, err := value.Match(c.vr, c.key, c.value); got != c.want || !is(err, c.code, c.at) {
			t.Errorf("%s: Match(%d, %q, %q): %v, %v; want %v, %d at %d", promise, c.vr, c.key, c.value, got, err, c.want, c.code, c.at)
		}
		if err := value.Key(c.vr, c.key); !is(err, c.code, c.at) {
			t.Errorf("P5.12: Key(%d, %q): %v; want %d at %d", c.vr, c.key, err, c.code, c.at)
		}
	}
}

// TestEmptyKey: it matches every value, of whatever kind.
func TestEmptyKey(t *testing.T) {
	for vr := api.VR(-2); vr < 40; vr++ {
		for _, v := range []string{"", "x", "20240101", `a\b`, "\\", "\xff"} {
			wantMatches(t, "P5.11", []matching{{vr: vr, value: v, want: true}})
		}
	}
}

func TestMatchSpans(t *testing.T) {
	wantMatches(t, "P5.11", []matching{
		{vr: api.VRDA, key: "20240101", value: "20240101", want: true},
		{vr: api.VRDA, key: "20240101", value: "20240102"},
		{vr: api.VRDA, key: "20240101-20240131", value: "20240131", want: true},
		{vr: api.VRDA, key: "20240101-20240131", value: "20240101", want: true},
		{vr: api.VRDA, key: "20240101-20240131", value: "20240201"},
		{vr: api.VRDA, key: "20240101-20240131", value: "20231231"},
		{vr: api.VRDA, key: "20240101-", value: "99991231", want: true},
		{vr: api.VRDA, key: "-20240101", value: "00010101", want: true},
		{vr: api.VRDA, key: "-20240101", value: "20240102"},
		{vr: api.VRDA, key: "20240101", value: "x"},
		{vr: api.VRDA, key: "20240101-", value: ""},
		{vr: api.VRDA, key: "20240101", value: "20240101-"},
		{vr: api.VRDA, key: "20240101", value: `x\20240101`, want: true},
		{vr: api.VRDA, key: "20240101", value: `20240102\20240103`},
		{vr: api.VRTM, key: "10-11", value: "1159", want: true},
		{vr: api.VRTM, key: "10-11", value: "115960.999999", want: true},
		{vr: api.VRTM, key: "10-11", value: "1200"},
		{vr: api.VRTM, key: "1030", value: "10"}, // its first tick lies ahead
		{vr: api.VRTM, key: "10", value: "1030", want: true},
		{vr: api.VRTM, key: "1000", value: "10", want: true},
		{vr: api.VRTM, key: "-1000", value: "10", want: true},
		{vr: api.VRTM, key: "-0959", value: "10"},
		{vr: api.VRDT, key: "2024", value: "20240630", want: true},
		{vr: api.VRDT, key: "20240101", value: "2024", want: true},
		{vr: api.VRDT, key: "20240102", value: "2024"},
		{vr: api.VRDT, key: "20240101", value: "2024010100+0100"},
		{vr: api.VRDT, key: "20240101+0100", value: "2024010100+0100", want: true},
		{vr: api.VRDT, key: "20240101-0500-", value: "2024010104"},
		{vr: api.VRDT, key: "20240101-0500-", value: "2024010105", want: true},
		{vr: api.VRDA, key: "2024-", value: "20240101", code: api.ErrValueForm, at: 4},
		{vr: api.VRDA, key: "2024*", value: "20240101", code: api.ErrValueForm, at: 4},
		{vr: api.VRDA, key: "*", value: "20240101", code: api.ErrValueForm, at: 0},
		{vr: api.VRDA, key: `20240101\20240102`, value: "20240101", code: api.ErrValueForm, at: 8},
		{vr: api.VRDA, key: "20240102-20240101", value: "x", code: api.ErrValueRange, at: 9},
		{vr: api.VRTM, key: "-", value: "", code: api.ErrValueForm, at: 1},
		{vr: api.VRTM, key: "24", value: "10", code: api.ErrValueRange, at: 0},
		{vr: api.VRDT, key: "2026-1100-1130", value: "2026", code: api.ErrValueForm, at: 9},
	})
}

func TestMatchNames(t *testing.T) {
	wantMatches(t, "P5.11", []matching{
		{vr: api.VRPN, key: "dOE*", value: "Doe^Jane", want: true},
		{vr: api.VRPN, key: "doe", value: "DOE", want: true},
		{vr: api.VRPN, key: "doe", value: "Doe^Jane"},
		{vr: api.VRPN, key: "DOE^?ANE", value: "doe^jane", want: true},
		{vr: api.VRPN, key: "ÉMILE", value: "émile", want: true},
		{vr: api.VRPN, key: "Ł*", value: "łódź"},
		{vr: api.VRPN, key: "Doe^^", value: "Doe", want: true},
		{vr: api.VRPN, key: "Doe=", value: "X=Doe", want: true},
		{vr: api.VRPN, key: "Doe^=^", value: "X=Doe", want: true},
		{vr: api.VRPN, key: "Doe", value: "Doe^^^=", want: true},
		{vr: api.VRPN, key: "Doe", value: "Doe^=X"},
		{vr: api.VRPN, key: "Doe^", value: "Doe^=X"},
		{vr: api.VRPN, key: "^", value: "Doe", want: true},
		{vr: api.VRPN, key: "^=^", value: "", want: true},
		{vr: api.VRPN, key: "===", value: "Doe", want: true},
		{vr: api.VRPN, key: "TARO*", value: "Yamada=Taro^Y", want: true},
		{vr: api.VRPN, key: "y*", value: "a=b=Yamada", want: true},
		{vr: api.VRPN, key: "yam*a", value: "Yam=ada"},
		{vr: api.VRPN, key: "*", value: "", want: true},
		{vr: api.VRPN, key: "?", value: ""},
		{vr: api.VRPN, key: "*", value: "=", want: true},
		{vr: api.VRPN, key: "=yam*", value: "Yamada^Taro=YAMADA^TARO", want: true},
		{vr: api.VRPN, key: "=yam*", value: "Yamada^Taro"},
		{vr: api.VRPN, key: "=*", value: "Yamada^Taro", want: true},
		{vr: api.VRPN, key: "yam*=x", value: "Yamada^Taro"},
		{vr: api.VRPN, key: "yam*=x", value: "Yamada^Taro=X", want: true},
		{vr: api.VRPN, key: "yam*=x", value: "X=Yamada"},
		{vr: api.VRPN, key: "a==c", value: "A=b=C", want: true},
		{vr: api.VRPN, key: "a==c", value: "A=b=d"},
		{vr: api.VRPN, key: "a==*", value: "A", want: true},
		{vr: api.VRPN, key: "a=b=c=d", value: "a=b=c=D", want: true},
		{vr: api.VRPN, key: "a=b=c=d", value: "a=b=c"},
		{vr: api.VRPN, key: "doe", value: `Roe\Doe`, want: true},
		{vr: api.VRPN, key: `roe\doe`, value: `Roe\Doe`},
		{vr: api.VRPN, key: "=b", value: `x\a=b`, want: true},
		{vr: api.VRPN, key: "\xe9", value: "\xe9", want: true},
		{vr: api.VRPN, key: "é", value: "\xe9"},
	})
}

func TestMatchTexts(t *testing.T) {
	for _, vr := range []api.VR{api.VRAE, api.VRCS, api.VRLO, api.VRLT, api.VRSH, api.VRST, api.VRUC, api.VRUR, api.VRUT} {
		one := vr == api.VRLT || vr == api.VRST || vr == api.VRUR || vr == api.VRUT
		wantMatches(t, "P5.11", []matching{
			{vr: vr, key: "S?ith*", value: "Smith^Jo", want: true},
			{vr: vr, key: "smith", value: "Smith"},
			{vr: vr, key: "*", value: "", want: true},
			{vr: vr, key: "?", value: ""},
			{vr: vr, key: "?", value: "é", want: true},
			{vr: vr, key: "a^", value: "a"},
			{vr: vr, key: "a", value: "a "},
			{vr: vr, key: "b", value: `a\b`, want: !one},
			{vr: vr, key: "", value: `a\b`, want: true},
			{vr: vr, key: "?", value: `aa\`},
			{vr: vr, key: "a*b", value: `a\b`, want: one},
			{vr: vr, key: `a\b`, value: `a\b`, want: one},
			{vr: vr, key: `a\b`, value: "a"},
		})
	}
}

func TestMatchOthers(t *testing.T) {
	wantMatches(t, "P5.11", []matching{
		{vr: api.VRUI, key: "1.2", value: "1.2", want: true},
		{vr: api.VRUI, key: "1.2", value: "1.20"},
		{vr: api.VRUI, key: `1.2\1.3`, value: "1.3", want: true},
		{vr: api.VRUI, key: `1.2\1.3`, value: "1.2", want: true},
		{vr: api.VRUI, key: `1.2\1.3`, value: `1.2\1.3`},
		{vr: api.VRUI, key: "1.3", value: `1.2\1.3`},
		{vr: api.VRUI, key: "1.*", value: "1.3"},
		{vr: api.VRUI, key: "1.?", value: "1.?", want: true},
		{vr: api.VRUI, key: "1.2", value: ""},
		{vr: api.VRUI, key: `1.2\`, value: "", want: true},
		{vr: api.VRUI, key: `1.2\1.3`, value: "1.2\\"},
		{vr: api.VRIS, key: "007", value: "7", want: true},
		{vr: api.VRIS, key: "7", value: "+0007", want: true},
		{vr: api.VRIS, key: "-0", value: "0", want: true},
		{vr: api.VRIS, key: "7", value: "8"},
		{vr: api.VRIS, key: "7", value: "-7"},
		{vr: api.VRIS, key: "0", value: ""},
		{vr: api.VRIS, key: "7", value: "x"},
		{vr: api.VRIS, key: "0", value: "2147483648"},
		{vr: api.VRIS, key: "7", value: `x\8\07`, want: true},
		{vr: api.VRIS, key: "*", value: "7", code: api.ErrValueForm, at: 0},
		{vr: api.VRIS, key: `7\8`, value: "7", code: api.ErrValueForm, at: 1},
		{vr: api.VRIS, key: "2147483648", value: "7", code: api.ErrValueRange, at: 0},
		{vr: api.VRIS, key: "0000000000007", value: "7", code: api.ErrValueLong, at: 12},
		{vr: api.VRDS, key: "1E2", value: "100.0", want: true},
		{vr: api.VRDS, key: "-0", value: "0E5", want: true},
		{vr: api.VRDS, key: "1.5", value: "1.50000", want: true},
		{vr: api.VRDS, key: "1.5", value: "-1.5"},
		{vr: api.VRDS, key: "1.5", value: "1.6"},
		{vr: api.VRDS, key: "0", value: ""},
		{vr: api.VRDS, key: "1.5", value: "1.5x"},
		{vr: api.VRDS, key: "0.3", value: `.1\.2\.3`, want: true},
		{vr: api.VRDS, key: "1.?", value: "1.5", code: api.ErrValueForm, at: 2},
		{vr: api.VRDS, key: "00000000000000001", value: "1", code: api.ErrValueLong, at: 16},
		{vr: api.VRSQ, key: "x", value: "x", code: api.ErrValueKind},
		{vr: api.VRSQ, key: "x", value: "", code: api.ErrValueKind},
		{vr: api.VRNone, key: "x", value: "x", code: api.ErrValueKind},
		{vr: api.VRItem, key: "x", value: "x", code: api.ErrValueKind},
		{vr: api.VRItem + 1, key: "x", value: "x", code: api.ErrValueKind},
		{vr: -1, key: "x", value: "x", code: api.ErrValueKind},
		{vr: 1<<63 - 1, key: "x", value: "x", code: api.ErrValueKind},
		{vr: -1 << 63, key: "x", value: "x", code: api.ErrValueKind},
	})
	for _, vr := range []api.VR{api.VRAS, api.VRAT, api.VRFD, api.VRFL, api.VROB, api.VROW, api.VRSL, api.VRSS, api.VRUL, api.VRUN, api.VRUS} {
		wantMatches(t, "P5.11", []matching{
			{vr: vr, key: "ab", value: "ab", want: true},
			{vr: vr, key: "ab", value: "aB"},
			{vr: vr, key: "a?", value: "ab"},
			{vr: vr, key: "*", value: "ab"},
			{vr: vr, key: "*", value: "*", want: true},
			{vr: vr, key: "\xff\x00", value: "\xff\x00", want: true},
			{vr: vr, key: "\xff\x00", value: "\xff"},
			{vr: vr, key: "ab", value: `x\ab\y`, want: true},
			{vr: vr, key: `x\ab`, value: `x\ab`},
		})
	}
}

// matchOf tells by the document's words whether a value matches a key; the reading of spans and numbers has tests of its own.
func matchOf(vr api.VR, key, v string) (bool, error) {
	if key == "" {
		return true, nil
	}
	pieces := []string{v}
	switch vr {
	case api.VRLT, api.VRST, api.VRUT, api.VRUR, api.VRUI, api.VRSQ:
	default:
		pieces = strings.Split(v, `\`)
	}
	some := false
	for _, piece := range pieces {
		fits, err := pieceOf(vr, key, piece)
		if err != nil {
			return false, err
		}
		some = some || fits
	}
	return some, nil
}

func pieceOf(vr api.VR, key, piece string) (bool, error) {
	switch vr {
	case api.VRDA, api.VRTM, api.VRDT:
		asked, err := value.Asked(vr, key)
		own, none := value.Own(vr, piece)
		return err == nil && none == nil && own.First >= asked.First && own.First <= asked.Last, err
	case api.VRPN:
		return nameFits(value.Fold(key), value.Fold(piece)), nil
	case api.VRAE, api.VRCS, api.VRLO, api.VRLT, api.VRSH, api.VRST, api.VRUC, api.VRUR, api.VRUT:
		return globs(key, piece), nil
	case api.VRUI:
		return strings.Contains(`\`+key+`\`, `\`+piece+`\`) && !strings.Contains(piece, `\`), nil
	case api.VRIS:
		asked, err := value.ParseWhole(key)
		own, none := value.ParseWhole(piece)
		return err == nil && none == nil && asked == own, err
	case api.VRDS:
		asked, err := value.ParseNumber(key)
		own, none := value.ParseNumber(piece)
		return err == nil && none == nil && value.CompareNumber(asked, own) == 0, err
	case api.VRNone, api.VRSQ, api.VRItem:
		return false, &api.Fault{Layer: "value", Err: api.ErrValueKind}
	}
	return key == piece, nil
}

func nameFits(key, name string) bool {
	for _, s := range []*string{&key, &name} {
		for strings.HasSuffix(*s, "^") || strings.HasSuffix(*s, "=") {
			*s = (*s)[:len(*s)-1]
		}
	}
	groups := strings.Split(name, "=")
	if key == "" {
		return true
	}
	if !strings.Contains(key, "=") {
		for _, g := range groups {
			if globs(key, g) {
				return true
			}
		}
		return false
	}
	for i, k := range strings.Split(key, "=") {
		if k != "" && !globs(k, append(groups, make([]string, i+1)...)[i]) {
			return false
		}
	}
	return true
}

func TestMatchAll(t *testing.T) {
	r := rand.New(rand.NewSource(14))
	parts := map[api.VR][]string{
		api.VRDA: {"20240101", "20240101", "20240103", "-", `\`, "x"},
		api.VRTM: {"10", "1030", "11", "-", `\`, "x"},
		api.VRDT: {"2024", "20240101", "-0500", "+0100", "-", `\`},
		api.VRPN: {"a", "B", "b", "É", "^", "^", "=", "=", "*", "?", `\`},
		api.VRUI: {"1", "1.2", ".", "2", `\`, `\`},
		api.VRIS: {"1", "0", "+", "-", `\`, "x"},
		api.VRDS: {"1", "0", ".", "E", "-", `\`},
	}
	for range 400000 {
		vr := api.VR(r.Intn(int(api.VRItem) + 1))
		list := parts[vr]
		if list == nil {
			list = []string{"a", "b", "A", "é", "\xe9", "*", "?", `\`}
		}
		key, v := someText(r, 5, list...), someText(r, 7, list...)
		want, reason := matchOf(vr, key, v)
		got, err := value.Match(vr, key, v)
		if got != want || !isSame(err, reason) {
			t.Fatalf("P5.11: Match(%d, %q, %q): %v, %v; want %v, %v", vr, key, v, got, err, want, reason)
		}
		if err := value.Key(vr, key); !isSame(err, reason) {
			t.Fatalf("P5.12: Key(%d, %q): %v; want %v", vr, key, err, reason)
		}
	}
}

// isSame tells whether two refusals of this layer say the same.
func isSame(err, other error) bool {
	if err == nil || other == nil {
		return err == nil && other == nil
	}
	f, g := err.(*api.Fault), other.(*api.Fault)
	return *f == *g
}
