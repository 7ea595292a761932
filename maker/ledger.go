package maker

import (
	"spile/api"
	"spile/barrel"
)

// ledger is what was gathered, and what was made of it.
type ledger struct {
	items *barrel.Ledger
}

// gather adds what was gathered, and mix what is made of other things.
func (k *ledger) gather() command {
	var mass int
	return command{forms{&mass}, func() (answer, api.Errno) { return asNumber(k.items.Gather(mass)) }}
}

func (k *ledger) mix() command {
	var rows []api.Row
	var mass int
	return command{forms{&rows, &mass}, func() (answer, api.Errno) {
		var takes []api.Take
		for _, row := range rows {
			takes = append(takes, api.Take{From: row.X, Mass: row.Y})
		}
		return asNumber(k.items.Make(takes, mass))
	}}
}

// traced tells what the ledger lists of a thing.
func (k *ledger) traced(list func(*barrel.Ledger, int) ([]int, api.Errno)) command {
	var item int
	return command{forms{&item}, func() (answer, api.Errno) { return asList(list(k.items, item)) }}
}

// amount tells how much of a thing comes from a bush.
func (k *ledger) amount() command {
	var item, bush int
	return command{forms{&item, &bush}, func() (answer, api.Errno) { return asRange(k.items.Amount(item, bush)) }}
}
