package value_test

import (
	"errors"
	"testing"

	"modality/api"
	"modality/value"
)

// refusals calls every face that refuses, each with what it refuses.
func refusals() map[string]error {
	list := map[string]error{}
	_, list["ParseDate"] = value.ParseDate("x")
	_, list["PrintDate"] = value.PrintDate(api.Date{})
	_, list["DateNumber"] = value.DateNumber(api.Date{})
	_, list["DateOf"] = value.DateOf(-1)
	_, list["ParseTime"] = value.ParseTime("x")
	_, list["PrintTime"] = value.PrintTime(api.Time{})
	_, list["ParseMoment"] = value.ParseMoment("x")
	_, list["PrintMoment"] = value.PrintMoment(api.Moment{})
	_, list["Own"] = value.Own(api.VRDA, "x")
	_, list["Asked"] = value.Asked(api.VRDA, "-")
	_, list["ParseName"] = value.ParseName("\\")
	_, list["PrintName"] = value.PrintName(named([5]string{"^"}))
	_, list["ParseWhole"] = value.ParseWhole("x")
	_, list["PrintWhole"] = value.PrintWhole(1 << 40)
	_, list["ParseNumber"] = value.ParseNumber("x")
	_, list["PrintNumber"] = value.PrintNumber(api.Number{Neg: true})
	list["Key"] = value.Key(api.VRSQ, "x")
	_, list["Match"] = value.Match(api.VRSQ, "x", "x")
	return list
}

// TestFaults: each refusal is a new fault of this layer with a number of this layer, so that nobody can change another's.
func TestFaults(t *testing.T) {
	seen := map[*api.Fault]string{}
	for range 2 {
		for call, err := range refusals() {
			var f *api.Fault
			var number api.Errno
			if !errors.As(err, &f) || !errors.As(err, &number) || f.Layer != "value" || number < 100 || number > 119 {
				t.Errorf("DOC.md, Errors: %s: %v", call, err)
				continue
			}
			if seen[f] != "" {
				t.Errorf("DOC.md, Errors: %s and %s give one fault", call, seen[f])
			}
			seen[f] = call
			f.Layer, f.At, f.Err = "changed", -1, nil
		}
	}
}
