package feed_test

import (
	"fmt"
	"math/rand"
	"reflect"
	"strings"
	"testing"

	"modality/api"
	"modality/feed"
)

// The second writer: a message as one text with all its marks, of which those at the ends are taken away.

var writeMarks = strings.NewReplacer("|", "\\F\\", "^", "\\S\\", "~", "\\R\\", "\\", "\\E\\", "&", "\\T\\")

// modelName gives the pieces of a name as they stand in a message.
func modelName(name string) string {
	p := strings.Split(name+"^^^^", "^")
	for i := range p {
		p[i] = writeMarks.Replace(p[i])
	}
	return strings.Join([]string{p[0], p[1], p[2], p[4], p[3]}, "^")
}

// modelLine writes a segment from a form, in which each %s is a text, and %n a name.
func modelLine(form string, texts ...string) string {
	for _, x := range texts {
		i := strings.IndexByte(form, '%')
		if form[i+1] == 'n' {
			x = modelName(x)
		} else {
			x = writeMarks.Replace(x)
		}
		form = form[:i] + strings.ReplaceAll(x, "%", "\x00") + form[i+2:]
	}
	fields := strings.Split(strings.ReplaceAll(form, "\x00", "%"), "|")
	for i := range fields {
		fields[i] = strings.TrimRight(fields[i], "^")
	}
	return strings.TrimRight(strings.Join(fields, "|"), "|") + "\r"
}

func modelPrint(o api.Order) string {
	text := "MSH|^~\\&|||||||ORM^O01|" + writeMarks.Replace(o.Control) + "|P|2.3.1||||||UNICODE UTF-8\r"
	if o.Verb == api.OrderCancel {
		text += "PID|||1||X\r"
		for _, id := range o.IDs {
			text += "ORC|CA\r" + modelLine("OBR||||||||||||||||||||%s", id)
		}
		return text
	}
	verb := map[int]string{api.OrderNew: "NW", api.OrderChange: "XO"}[o.Verb]
	for i, s := range o.Steps {
		if i == 0 {
			text += modelLine("PID|||%s^^^%s||%n||%s|%s", s.PatientID, s.Issuer, s.PatientName, s.Birth, s.Sex)
		}
		if i == 0 && s.Referrer+s.Location != "" {
			text += modelLine("PV1|||%s|||||^%n", s.Location, s.Referrer)
		}
		text += modelLine("ORC|%s||||||^^^%s%s", verb, s.Date, s.Time)
		text += modelLine("OBR||||^%s^^^%s||||||||||||||%s|%s|%s|%s^%s|||%s||||||||||^%n", s.ProcedureDesc, s.Desc, s.Accession, s.Procedure, s.ID, s.Station, s.StationName, s.Modality, s.Performer)
		text += modelLine("ZDS|%s", s.Study)
	}
	return text
}

// wantPrint holds Print against the second writer and the second reader.
func wantPrint(t *testing.T, o api.Order) bool {
	t.Helper()
	got, err := feed.Print(o)
	want := modelPrint(o)
	read, code, _ := modelParse(want)
	if may := code == api.OK && fmt.Sprintf("%#v", read) == fmt.Sprintf("%#v", tidy(o)); !may {
		if !is(err, api.ErrFeedValue, 0) || got != "" {
			t.Fatalf("P11.7: Print(%s) = %q, %v\nwant a refusal", shown(o), got, err)
		}
		return false
	}
	if err != nil || got != want {
		t.Fatalf("P11.7: Print(%s) = %q, %v\nwant %q", shown(o), got, err, want)
	}
	if back, err := feed.Parse(got); err != nil || !same(back, tidy(o)) {
		t.Fatalf("P11.9: %q is read as %s, %v", got, shown(back), err)
	}
	return true
}

// tidy gives an order whose empty lists are nil.
func tidy(o api.Order) api.Order {
	if len(o.Steps) == 0 {
		o.Steps = nil
	}
	if len(o.IDs) == 0 {
		o.IDs = nil
	}
	return o
}

// TestPrint: by hand, segment by segment.
func TestPrint(t *testing.T) {
	two := order()
	two.Verb = api.OrderChange
	two.Steps = append(two.Steps, two.Steps[0])
	two.Steps[1].ID, two.Steps[1].Performer, two.Steps[1].StationName = "S2", "", ""
	least := api.Order{Control: "1", Verb: api.OrderNew, Steps: []api.Step{{ID: "S1", Procedure: "RP1", Study: "1.2", PatientName: "Doe", PatientID: "P1", Modality: "MR", Station: "SCAN1", Date: "20240131", Time: "235960", Status: api.StepScheduled}}}
	visited, placed, marked := order(), order(), order()
	visited.Steps[0].Location = ""
	placed.Steps[0].Referrer = ""
	marked.Control = "|^~\\&"
	marked.Steps[0].PatientID, marked.Steps[0].PatientName, marked.Steps[0].Desc = "a|b^c~d&e", "D|e~^J&", "é"
	const (
		begin = "MSH|^~\\&|||||||ORM^O01|42|P|2.3.1||||||UNICODE UTF-8\r"
		pid   = "PID|||P1^^^H||Doe^Jane^Q^Jr^Dr||19700101|F\r"
		pv1   = "PV1|||W1|||||^Smith^Ann^R^Sr^Prof\r"
		obr   = "OBR||||^Head^^^Step||||||||||||||A1|RP1|S1|SCAN1^Room|||MR||||||||||^Tech^Tom^T^III^Mr\rZDS|1.2.3\r"
	)
	for name, c := range map[string]struct {
		o    api.Order
		want string
	}{
		"one":  {order(), begin + pid + pv1 + "ORC|NW||||||^^^20240131120000\r" + obr},
		"two":  {two, begin + pid + pv1 + "ORC|XO||||||^^^20240131120000\r" + obr + "ORC|XO||||||^^^20240131120000\rOBR||||^Head^^^Step||||||||||||||A1|RP1|S2|SCAN1|||MR\rZDS|1.2.3\r"},
		"some": {least, "MSH|^~\\&|||||||ORM^O01|1|P|2.3.1||||||UNICODE UTF-8\rPID|||P1||Doe\rORC|NW||||||^^^20240131235960\rOBR|||||||||||||||||||RP1|S1|SCAN1|||MR\rZDS|1.2\r"},
		"gone": {api.Order{Control: "42", Verb: api.OrderCancel, IDs: []string{"S1", "S2"}, Steps: []api.Step{}}, begin + "PID|||1||X\rORC|CA\rOBR||||||||||||||||||||S1\rORC|CA\rOBR||||||||||||||||||||S2\r"},
		"from": {visited, begin + pid + "PV1||||||||^Smith^Ann^R^Sr^Prof\rORC|NW||||||^^^20240131120000\r" + obr},
		"in":   {placed, begin + pid + "PV1|||W1\rORC|NW||||||^^^20240131120000\r" + obr},
		"marks": {marked, strings.Replace(begin, "42", "\\F\\\\S\\\\R\\\\E\\\\T\\", 1) + "PID|||a\\F\\b\\S\\c\\R\\d\\T\\e^^^H||D\\F\\e\\R\\^J\\T\\||19700101|F\r" + pv1 +
			"ORC|NW||||||^^^20240131120000\r" + strings.Replace(obr, "Step", "é", 1)},
	} {
		if got, err := feed.Print(c.o); err != nil || got != c.want {
			t.Errorf("P11.7: %s: %q, %v\nwant %q", name, got, err, c.want)
		}
		if !wantPrint(t, c.o) {
			t.Errorf("P11.7: %s is refused", name)
		}
	}
}

// TestPrintRefuses: what no message says.
func TestPrintRefuses(t *testing.T) {
	for name, turn := range map[string]func(o *api.Order){
		"no verb":            func(o *api.Order) { o.Verb = 0 },
		"another verb":       func(o *api.Order) { o.Verb = 4 },
		"a verb below":       func(o *api.Order) { o.Verb = -1 },
		"a cancel of steps":  func(o *api.Order) { o.Verb = api.OrderCancel },
		"a cancel with both": func(o *api.Order) { o.Verb, o.IDs = api.OrderCancel, []string{"S1"} },
		"IDs":                func(o *api.Order) { o.IDs = []string{"S1"} },
		"no steps":           func(o *api.Order) { o.Steps = nil },
		"no IDs":             func(o *api.Order) { *o = api.Order{Control: "1", Verb: api.OrderCancel} },
		"an ID that is none": func(o *api.Order) { *o = api.Order{Control: "1", Verb: api.OrderCancel, IDs: []string{""}} },
		"an ID twice":        func(o *api.Order) { *o = api.Order{Control: "1", Verb: api.OrderCancel, IDs: []string{"a", "a"}} },
		"nine IDs": func(o *api.Order) {
			*o = api.Order{Control: "1", Verb: api.OrderCancel, IDs: strings.Split("abcdefghi", "")}
		},
		"a code":             func(o *api.Order) { o.Code = "AE" },
		"words":              func(o *api.Order) { o.Words = "x" },
		"no control ID":      func(o *api.Order) { o.Control = "" },
		"a long control ID":  func(o *api.Order) { o.Control = strings.Repeat("x", 21) },
		"a control byte":     func(o *api.Order) { o.Control = "a\rb" },
		"a status":           func(o *api.Order) { o.Steps[0].Status = api.StepStarted },
		"no status":          func(o *api.Order) { o.Steps[0].Status = 0 },
		"a space behind":     func(o *api.Order) { o.Steps[0].Location = "x " },
		"a space ahead":      func(o *api.Order) { o.Steps[0].Location = " x" },
		"a backslash":        func(o *api.Order) { o.Steps[0].Location = "a\\b" },
		"a line":             func(o *api.Order) { o.Steps[0].Location = "a\rNTE" },
		"bytes":              func(o *api.Order) { o.Steps[0].Location = "\xff" },
		"a long name":        func(o *api.Order) { o.Steps[0].PatientName = strings.Repeat("n", 65) },
		"a long referrer":    func(o *api.Order) { o.Steps[0].Referrer = strings.Repeat("n", 65) },
		"a long performer":   func(o *api.Order) { o.Steps[0].Performer = strings.Repeat("n", 65) },
		"six components":     func(o *api.Order) { o.Steps[0].PatientName = "a^b^c^d^e^f" },
		"groups":             func(o *api.Order) { o.Steps[0].PatientName = "a=b" },
		"a referrer's group": func(o *api.Order) { o.Steps[0].Referrer = "a=b" },
		"an open name":       func(o *api.Order) { o.Steps[0].PatientName = "a^" },
		"no family":          func(o *api.Order) { o.Steps[0].Referrer = "^a" },
		"a space in a name":  func(o *api.Order) { o.Steps[0].Performer = "a ^b" },
		"no description":     func(o *api.Order) { o.Steps[0].Desc = "" },
		"a time too short":   func(o *api.Order) { o.Steps[0].Time = "1200" },
		"a day and a time":   func(o *api.Order) { o.Steps[0].Date, o.Steps[0].Time = "2024013", "1120000" },
		"another sex":        func(o *api.Order) { o.Steps[0].Sex = "U" },
		"a birth with time":  func(o *api.Order) { o.Steps[0].Birth = "197001011200" },
		"a long ID":          func(o *api.Order) { o.Steps[0].ID = strings.Repeat("x", 17) },
		"a long text":        func(o *api.Order) { o.Steps[0].Desc = strings.Repeat("x", 16384) },
		"another patient": func(o *api.Order) {
			o.Steps = append(o.Steps, o.Steps[0])
			o.Steps[1].ID, o.Steps[1].PatientID = "S2", "P2"
		},
		"another referrer": func(o *api.Order) {
			o.Steps = append(o.Steps, o.Steps[0])
			o.Steps[1].ID, o.Steps[1].Referrer = "S2", ""
		},
		"one ID twice": func(o *api.Order) { o.Steps = append(o.Steps, o.Steps[0]) },
		"a second's name": func(o *api.Order) {
			o.Steps = append(o.Steps, o.Steps[0])
			o.Steps[1].ID, o.Steps[1].Performer = "S2", "a^b^c^d^e^f"
		},
		"a second's patient": func(o *api.Order) {
			o.Steps = append(o.Steps, o.Steps[0])
			o.Steps[1].ID, o.Steps[1].PatientName = "S2", "a^b^c^d^e^f"
		},
		"nine steps": func(o *api.Order) {
			for i := range 8 {
				o.Steps = append(o.Steps, o.Steps[0])
				o.Steps[i+1].ID = fmt.Sprint(i)
			}
		},
	} {
		o := order()
		turn(&o)
		if got, err := feed.Print(o); !is(err, api.ErrFeedValue, 0) || got != "" {
			t.Errorf("P11.7: %s: %q, %v", name, got, err)
		}
		wantPrint(t, o)
	}
}

// TestPrintTexts: each text of a step as many things, held against the second writer.
func TestPrintTexts(t *testing.T) {
	texts := []string{"", "x", "é€", "a|b", "^", "~&", "\\", "%s", "a=b", "a^b", "^^", "=", "a^b^c^d^e", "^^^^e", "a^^^d", "\r", "\xc3", " ", "x y", " x", "M", "O", "20240229", "235960", "1200", strings.Repeat("x", 16), strings.Repeat("|", 64), strings.Repeat("x", 65)}
	taken := 0
	for i := range reflect.TypeFor[api.Step]().NumField() {
		for k := range reflect.TypeFor[api.Step]().NumField() {
			for n, text := range texts {
				o := order()
				s := reflect.ValueOf(&o.Steps[0]).Elem()
				for place, field := range []int{i, k} {
					if s.Field(field).Kind() == reflect.String {
						s.Field(field).SetString(texts[(n+place*n*k)%len(texts)])
					}
				}
				if wantPrint(t, o) {
					taken++
				}
				o = order()
				o.Control = text
				wantPrint(t, o)
			}
		}
	}
	if taken < 1000 {
		t.Errorf("only %d orders were written", taken)
	}
}

// TestPrintMany: orders of many steps, and cancellations, by chance.
func TestPrintMany(t *testing.T) {
	r := rand.New(rand.NewSource(5))
	pick := func(list ...string) string { return list[r.Intn(len(list))] }
	taken := 0
	for range 5000 {
		o := api.Order{Control: pick("1", "a b", "|", "x\\y"), Verb: 1 + r.Intn(3)}
		first := order().Steps[0]
		first.PatientName, first.Referrer, first.Location = pick("Doe", "A^B^^^E", "é&^|"), pick("", "", "R^S"), pick("", "W~1")
		for i := range 1 + r.Intn(9) {
			s := first
			s.ID = fmt.Sprint(pick("S", "|", "T"), i)
			s.Desc, s.StationName, s.Performer, s.Accession = pick("Step", "a^b", "x"), pick("", "é"), pick("", "P", "P^^^Dr"), pick("", "A&B")
			if o.Verb == api.OrderCancel {
				o.IDs = append(o.IDs, s.ID)
			} else {
				o.Steps = append(o.Steps, s)
			}
		}
		if wantPrint(t, o) {
			taken++
		}
	}
	if taken < 3000 {
		t.Errorf("only %d orders were written", taken)
	}
}

// TestPrintParsed: what Parse reads, Print writes, and it is read as the same.
func TestPrintParsed(t *testing.T) {
	r := rand.New(rand.NewSource(6))
	taken := 0
	for range 30000 {
		o, err := feed.Parse(spoilt(r, whole))
		if err != nil {
			continue
		}
		taken++
		if !wantPrint(t, o) {
			t.Fatalf("P11.7: %s is refused", shown(o))
		}
	}
	if taken < 3000 {
		t.Errorf("only %d messages were read", taken)
	}
}

// TestPrintLong: an order whose message has just as many bytes as one may have, and one more.
func TestPrintLong(t *testing.T) {
	o := order()
	text, _ := feed.Print(o)
	for more := range 3 {
		o.Steps[0].Location = strings.Repeat("x", api.MaxMessage-len(text)+len("W1")-1+more)
		if taken := wantPrint(t, o); taken != (more < 2) {
			t.Errorf("P11.7: a message of %d bytes: %v", api.MaxMessage-1+more, taken)
		}
	}
}
