package vat

import (
	"slices"

	"spile/api"
	"spile/span"
)

// Keeps returns in which hour sap possibly, and surely, spoils.
func Keeps(r api.VatRules, load api.Range, temperatures []api.Range) (possibly, surely int, e api.Errno) {
	if !validRules(r) || !rangeIn(load, 0, api.MaxGerms) {
		return 0, 0, api.ErrArg
	}
	if len(temperatures) > api.MaxHours {
		return 0, 0, api.ErrLong
	}
	possibly, surely = -1, -1
	for hour, t := range temperatures {
		growth, e := span.Values(r.Growth, t)
		if e != api.OK {
			return 0, 0, e
		}
		load = grown(load, growth, 1)
		if possibly < 0 && load.High >= r.Limit {
			possibly = hour
		}
		if surely < 0 && load.Low >= r.Limit {
			surely = hour
		}
	}
	return possibly, surely, api.OK
}

// validRules reports whether rules are valid.
func validRules(r api.VatRules) bool {
	wrong := func(row api.Row) bool { return !in(0, api.MaxGerms, row.Y) }
	return span.CheckTable(r.Growth) == api.OK && !slices.ContainsFunc(r.Growth, wrong) &&
		in(1, api.MaxGerms, r.Limit) &&
		rangeIn(r.Film, 0, api.MaxGerms)
}

// grown returns a load that has grown by so much in each of some hours.
func grown(load, growth api.Range, hours int) api.Range {
	return api.Range{
		Low:  min(api.MaxGerms, load.Low+hours*growth.Low),
		High: min(api.MaxGerms, load.High+hours*growth.High),
	}
}
